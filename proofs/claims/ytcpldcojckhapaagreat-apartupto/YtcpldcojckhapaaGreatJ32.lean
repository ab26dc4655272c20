/-
  
-/
import Derived.Test.YtcpldcojckhapaaGreatJ31
import Derived.Test.YtcpldcojckhapaaGreatJ28
set_option maxRecDepth 100000
namespace Go.Proofs.YtcpldcojckhapaaGreat
namespace Pl
def pkd (bs : Nat -> Nat) : Nat -> Nat -> Nat
  | 0, _ => 0
  | q + 1, j => if q / 8 = j then pkd bs q j + bs q * 2 ^ (q % 8) else pkd bs q j
theorem pkd_before (bs : Nat -> Nat) (q j : Nat) (h : q <= 8 * j) : pkd bs q j = 0 := by
  induction q with
  | zero => rfl
  | succ q ih => rw [pkd, if_neg (by omega)]; exact ih (by omega)
theorem pkd_lt (bs : Nat -> Nat) (hb : ∀ i, bs i < 2) (j r : Nat) (hr : r <= 8) : pkd bs (8 * j + r) j < 2 ^ r := by
  induction r with
  | zero => rw [Nat.add_zero, pkd_before bs _ j (Nat.le_refl _)]; omega
  | succ r ih =>
    have h1 := ih (by omega)
    have e1 : (8 * j + r) / 8 = j := by omega
    have e2 : (8 * j + r) % 8 = r := by omega
    rw [<- Nat.add_assoc, pkd, if_pos e1, e2, Nat.pow_succ]
    have := hb (8 * j + r)
    rcases (show bs (8 * j + r) = 0 ∨ bs (8 * j + r) = 1 by omega) with e | e <;> rw [e] <;> omega
theorem pkd_after (bs : Nat -> Nat) (j q : Nat) (h : 8 * j + 8 <= q) : pkd bs q j = pkd bs (8 * j + 8) j := by
  induction q with
  | zero => omega
  | succ q ih =>
    by_cases hq : 8 * j + 8 = q + 1
    . rw [hq]
    . rw [pkd, if_neg (by omega)]; exact ih (by omega)
theorem pkd_byte (bs : Nat -> Nat) (hb : ∀ i, bs i < 2) (q j : Nat) : pkd bs q j < 256 := by
  rcases Nat.lt_or_ge q (8 * j + 8) with h | h
  . rcases Nat.lt_or_ge q (8 * j) with h2 | h2
    . rw [pkd_before bs q j (by omega)]; omega
    . obtain ⟨r, rfl⟩ : ∃ r, q = 8 * j + r := ⟨q - 8 * j, by omega⟩
      have h3 := pkd_lt bs hb j r (by omega)
      have : (2 : Nat) ^ r <= 2 ^ 8 := Nat.pow_le_pow_right (by omega) (by omega)
      omega
  . rw [pkd_after bs j q h]
    exact pkd_lt bs hb j 8 (Nat.le_refl _)
theorem pkd_room (bs : Nat -> Nat) (hb : ∀ i, bs i < 2) (q : Nat) : pkd bs q (q / 8) < 2 ^ (q % 8) := by
  have := pkd_lt bs hb (q / 8) (q % 8) (by omega)
  rwa [show 8 * (q / 8) + q % 8 = q by omega] at this
def packB (bs : Nat -> Nat) (m pl : Nat) : ByteArray := ⟨((List.range pl).map fun j => UInt8.ofNat (pkd bs m j)).toArray⟩
theorem packB_size (bs : Nat -> Nat) (m pl : Nat) : (packB bs m pl).size = pl := by
  show ((List.range pl).map fun j => UInt8.ofNat (pkd bs m j)).toArray.size = pl
  simp
end Pl
open Go.RowKit
def pkA (bs : Nat -> Nat) (q pl : Nat) : Array Value := ((List.range pl).map fun j => Value.int .u8 (Pl.pkd bs q j : Nat)).toArray
theorem pkA_at (bs : Nat -> Nat) (q pl j : Nat) (h : j < pl) : (pkA bs q pl)[j]? = some (.int .u8 (Pl.pkd bs q j : Nat)) := by simp [pkA, h]
theorem pkA_zero (bs : Nat -> Nat) (pl : Nat) : pkA bs 0 pl = madeCells #[.int .u8 0] pl := by
  apply Array.toList_inj.1
  rw [toList_madeCells_one]
  simp [pkA, Pl.pkd, List.map_const']
theorem pkA_step (bs : Nat -> Nat) (q pl : Nat) : (pkA bs q pl).setIfInBounds (q / 8) (.int .u8 (Pl.pkd bs (q + 1) (q / 8) : Nat)) = pkA bs (q + 1) pl := by
  apply Array.ext_getElem?
  intro j
  rw [Array.getElem?_setIfInBounds]
  by_cases hj : j < pl
  . rw [pkA_at bs (q + 1) pl j hj]
    by_cases e : q / 8 = j
    . subst e; simp [pkA, hj]
    . rw [if_neg e, pkA_at bs q pl j hj, Pl.pkd, if_neg e]
  . have h1 : (pkA bs q pl)[j]? = none := by simp [pkA]; omega
    have h2 : (pkA bs (q + 1) pl)[j]? = none := by simp [pkA]; omega
    rw [h1, h2]
    split
    . rename_i e
      rw [if_neg (by simp [pkA]; omega)]
    . rfl
theorem u8_or_nat (a b : Nat) (ha : a < 256) (hb : b < 256) : bits .or .u8 (a : Int) (b : Int) = ((a ||| b : Nat) : Int) := by
  have hx : a ||| b < 2 ^ 8 := Nat.or_lt_two_pow (by omega) (by omega)
  show IntKind.u8.wrap ((BitVec.ofInt 8 (a : Int) ||| BitVec.ofInt 8 (b : Int)).toNat : Int) = _
  have e1 : (BitVec.ofInt 8 (a : Int)).toNat = a := by rw [BitVec.ofInt_natCast, BitVec.toNat_ofNat]; exact Nat.mod_eq_of_lt (by omega)
  have e2 : (BitVec.ofInt 8 (b : Int)).toNat = b := by rw [BitVec.ofInt_natCast, BitVec.toNat_ofNat]; exact Nat.mod_eq_of_lt (by omega)
  rw [BitVec.toNat_or, e1, e2, IntKind.wrap_u8]
  omega
theorem pack_bit (bs : Nat -> Nat) (hb : ∀ i, bs i < 2) (q : Nat) : bits BinOp.or IntKind.u8 ((Pl.pkd bs q (q / 8) : Nat) : Int) (((bs q : Nat) : Int) * 2 ^ (q % 8) % 256) = ((Pl.pkd bs (q + 1) (q / 8) : Nat) : Int) := by
  have h1 := Pl.pkd_byte bs hb q (q / 8)
  have h2 := Pl.pkd_room bs hb q
  have h3 := hb q
  have h4 : 2 ^ (q % 8) <= 2 ^ 7 := Nat.pow_le_pow_right (by omega) (by omega)
  obtain ⟨V, hV⟩ : ∃ V, V = bs q * 2 ^ (q % 8) := ⟨_, rfl⟩
  have hVl : V < 256 := by
    rcases (show bs q = 0 ∨ bs q = 1 by omega) with r | r <;> rw [hV, r] <;> omega
  have hVm : V % 2 ^ (q % 8) = 0 := by rw [hV]; exact Nat.mul_mod_left _ _
  have e : ((bs q : Nat) : Int) * 2 ^ (q % 8) % 256 = ((V : Nat) : Int) := by
    have : ((bs q : Nat) : Int) * 2 ^ (q % 8) = ((bs q * 2 ^ (q % 8) : Nat) : Int) := by rw [Int.natCast_mul, Int.natCast_pow]; rfl
    rw [this, <- hV]; omega
  rw [e, u8_or_nat _ _ h1 hVl, Nat.or_comm, nat_join (q % 8) V _ hVm h2, Pl.pkd, if_pos rfl, <- hV, Nat.add_comm]
theorem conv_packQ (W : World) (g pl m : Nat) (bs : Nat -> Nat) (h : W.heap[g]? = some (.cells (pkA bs m pl) 5 (0, 0))) : (convert 114 9 (.slice (some ⟨g, 0, none⟩) pl pl)).run Tryz.prog W = .ok (.string (Pl.packB bs m pl)) W := by
  have := conv_row W g pl pl ((List.range pl).map fun j => ((Pl.pkd bs m j : Nat) : Int)) (by simp) (fun j x hj => by
    have hj' : j < pl := by have := (List.getElem?_eq_some_iff.1 hj).1; simpa using this
    rw [cell_of_row _ _ _ _ _ _ h, pkA_at bs m pl j hj']
    simp [hj'] at hj
    rw [hj])
  rw [this]
  congr 2
  apply ByteArray.ext
  simp [bytesOf, Pl.packB]
set_option maxRecDepth 100000 in
set_option maxHeartbeats 1000000 in
theorem bits_any (bs : Nat -> Nat) (n c g off : Nat) (a : Option Addr) (w : World) (hb : ∀ i, bs i < 2) (hn : n <= 10000) (hg : g < w.heap.size) (ha : 0 < n -> a = some ⟨g, off, none⟩) (hc : ∀ j, j < n -> w.cell? ⟨g, off + j, none⟩ = some (.int .i64 (bs j : Nat))) :
    Calls Tryz.prog 86 #[.slice a n c] w fun e w' => e = .returned (.string (Pl.packB bs n ((n + 7) / 8))) /\ Below w.heap.size w w' := by
  obtain ⟨pl, hpl⟩ : ∃ pl, pl = (n + 7) / 8 := ⟨_, rfl⟩
  have hmk := made_bytesQ pl (by omega)
  have HC := hideF hc
  have HA := hideF ha
  have HB := hideF hb
  rw [<- hpl]
  have HPL := hideF hpl
  have hpll : pl <= 2000 := by omega
  clear hc ha hb hpl
  go_enter Tryz.func86, Tryz.ntmps86
  go_wp2_with fail
  refine (bitsSize_any n w (by omega)).mono ?_
  rintro e w1 ⟨pl2, rfl, hp2, rfl⟩
  obtain rfl : pl = pl2 := by rw [hp2, HPL.out]
  clear hp2
  go_wp2_with fail
  clear hmk
  go_loopw [12] (fun i wr => ∃ q : Nat, q <= n /\ i = .int .i64 (q : Nat) /\ wr.heap[w1.heap.size]? = some (.cells (pkA bs q pl) 5 (0, 0)) /\ Below w1.heap.size w1 wr) (fun i _ => n - (intOf i).toNat)
  case atStart => exact ⟨0, Nat.zero_le _, rfl, by rw [pkA_zero]; exact heap_alloc_new w1 _, bel_alloc (Below.refl _ _) _⟩
  case round =>
    obtain ⟨q, hq, rfl, hpk, hbr⟩ := hrel
    by_cases hlt : q < n
    . obtain rfl := HA.out (by omega)
      have hcq : wr.cell? ⟨g, off + q, none⟩ = some (.int .i64 (bs q : Nat)) := ((bcell hbr).1 g _ hg).trans (HC.out q hlt)
      have hq8 : q / 8 < pl := by have := HPL.out; omega
      have hbq := HB.out q
      have hcp : wr.cell? ⟨w1.heap.size, q / 8, none⟩ = some (.int .u8 (Pl.pkd bs q (q / 8) : Nat)) := by rw [cell_of_row wr _ _ _ 5 (0, 0) hpk]; exact pkA_at bs q pl _ hq8
      have hfp : wr.frozen? ⟨w1.heap.size, q / 8, none⟩ = false := frozen_of_row wr _ _ _ 5 hpk
      have hpb := Pl.pkd_byte bs HB.out q (q / 8)
      have HPK := hideF hpk
      have HBR := hideF hbr
      clear hpk hbr
      go_wp2_with fail
      go_region
      rw [pack_bit bs HB.out q]
      go_wp2
      go_roundw
      case rel => exact ⟨q + 1, by omega, by go_num, by
        show (wr.setCell ⟨w1.heap.size, q / 8, none⟩ (.int .u8 (Pl.pkd bs (q + 1) (q / 8) : Nat))).heap[w1.heap.size]? = _
        rw [heap_setCell_same wr w1.heap.size (q / 8) _ 5 _ HPK.out, pkA_step], HBR.out.trans ⟨rfl, rfl, rfl, by simp, fun k hk => heap_setCell_other wr _ _ _ (by show k ≠ w1.heap.size; omega)⟩⟩
      case measure => simp [intOf]; omega
    . obtain rfl : q = n := by omega
      have hcv := conv_packQ wr w1.heap.size pl q bs hpk
      go_wp2
      go_ret
      exact ⟨rfl, hbr⟩
end Go.Proofs.YtcpldcojckhapaaGreat

set_option maxRecDepth 100000
namespace Go.Proofs.YtcpldcojckhapaaGreat
open Go.RowKit
set_option maxRecDepth 100000 in
set_option maxHeartbeats 1000000 in
theorem holdsBits_yes (t : Nat) (w : World) (h : t < 2) : Calls Tryz.prog 100 #[.int .i64 (t : Nat)] w fun e w' => e = .returned (.bool true) /\ w' = w := by
  rcases (show t = 0 ∨ t = 1 by omega) with rfl | rfl
  . go_enter Tryz.func100, Tryz.ntmps100
    go_wp2
    go_ret
    exact ⟨rfl, rfl⟩
  . go_enter Tryz.func100, Tryz.ntmps100
    go_wp2
    go_ret
    exact ⟨rfl, rfl⟩
set_option maxRecDepth 100000 in
set_option maxHeartbeats 1000000 in
theorem read_bits (d L S : Nat) (E : Nat -> Nat) (wv : Value) (D : Dev) (x : Pl.Shp) (n : Nat) (a : Option Addr) (c : Nat) (bs : Nat -> Nat) (w : World) (h : DevIn w d L S E wv D) (ht2 : x.tab < 2) (hfit : x.frm + x.cnt <= D.sz x.tab) (hsz : D.sz x.tab <= 1000) (hb : ∀ i, bs i < 2) (hv : ∀ j, j < x.cnt -> D.ent x.tab (x.frm + j) = (bs j : Nat)) :
    Calls Tryz.prog 145 #[.pointer (some ⟨d, 3, none⟩), shV x (.slice a n c)] w fun e w' => e = .returned (.string (Pl.packB bs x.cnt ((x.cnt + 7) / 8))) /\ Below w.heap.size w w' := by
  unfold shV
  have ht : x.tab < 4 := by omega
  have e1 := h.cellE ht
  have hdl := lt_of_block h.dev
  have hE := (h.ent x.tab ht).lt
  have ht' : (x.tab : Int) < 4 := by omega
  have hcell : ∀ j, j < x.cnt -> w.cell? ⟨E x.tab, x.frm + j, none⟩ = some (.int .i64 (bs j : Nat)) := fun j hj => by
    have := (h.ent x.tab ht).cell (i := x.frm + j) (j := 0) (by omega) (by omega)
    rw [Nat.mul_one, Nat.add_zero] at this
    rw [this, hv j hj]
  have HC := hideF hcell
  have HBB := hideF hb
  have b1 : (x.frm : Int) + (x.cnt : Int) <= (D.sz x.tab : Int) := by omega
  have b2 : (x.frm : Int) <= (x.frm : Int) + (x.cnt : Int) := by omega
  have b3 : x.frm + x.cnt <= 1000 := by omega
  clear h hcell hv hb
  go_enter Tryz.func145, Tryz.ntmps145
  go_wp2_with fail
  go_quiet (fail)
  go_wp2_with fail
  all_goals
    refine (holdsBits_yes x.tab _ ht2).mono ?_
    rintro e w1 ⟨rfl, rfl⟩
    go_wp2_with fail
  all_goals
    have hXb : Below w.heap.size w ((w.alloc (.cells #[.int .i64 (x.fn : Nat), .int .i64 (x.tab : Nat), .int .i64 (x.frm : Nat), .int .i64 (x.cnt : Nat), .int .i64 (x.into : Nat), .int .i64 (x.to : Nat), .int .i64 (x.many : Nat), .slice a n c] 144)).drewN nq) := below_drewN (bel_alloc (Below.refl _ _) _) _
    have HXb := hideF hXb
    refine (bits_any bs x.cnt _ (E x.tab) x.frm _ _ HBB.out (by omega) (by simp; omega) (fun hp => by first | rfl | (exfalso; omega)) (fun j hj => by rw [(bcell HXb.out).1 (E x.tab) _ hE]; exact HC.out j hj)).mono ?_
    rintro e w2 ⟨rfl, hb2⟩
    have HB2 := hideF (bel_then HXb.out hb2)
    clear hXb hb2
    go_wp2
    go_ret
    exact ⟨rfl, HB2.out⟩
set_option maxRecDepth 100000 in
set_option maxHeartbeats 1000000 in
theorem answer_body (d : Nat) (s : ByteArray) (x : Pl.Shp) (a : Option Addr) (n c k : Nat) (w : World) (hf : x.fn = 5 ∨ x.fn = 6 ∨ x.fn = 22) :
    Calls Tryz.prog 116 #[reqV s x (.slice a n c) k, .pointer (some ⟨d, 3, none⟩)] w fun e w' => e = .returned (.string s) /\ Below w.heap.size w w' := by
  unfold reqV
  rcases hf with hf | hf | hf
  all_goals
    rw [hf]
    clear hf
    go_enter Tryz.func116, Tryz.ntmps116
    go_wp2
    go_ret
    exact ⟨rfl, bel_alloc (Below.refl _ _) _⟩
set_option maxRecDepth 100000 in
set_option maxHeartbeats 1000000 in
theorem answer_five (d : Nat) (s : ByteArray) (x : Pl.Shp) (a : Option Addr) (n c k : Nat) (w : World) (hf : x.fn = 15 ∨ x.fn = 16) (hs : 5 <= s.size) :
    Calls Tryz.prog 116 #[reqV s x (.slice a n c) k, .pointer (some ⟨d, 3, none⟩)] w fun e w' => e = .returned (.string (s.extract 0 5)) /\ Below w.heap.size w w' := by
  unfold reqV
  have hsI : (5 : Int) <= (s.size : Int) := by omega
  rcases hf with hf | hf
  all_goals
    rw [hf]
    clear hf
    go_enter Tryz.func116, Tryz.ntmps116
    go_wp2
    go_ret
    exact ⟨rfl, bel_alloc (Below.refl _ _) _⟩
def toldB (s data : ByteArray) : ByteArray := ⟨#[UInt8.ofNat (Pl.byt s 0), UInt8.ofNat data.size]⟩ ++ data
set_option maxRecDepth 100000 in
set_option maxHeartbeats 1000000 in
theorem answer_told (d : Nat) (s data : ByteArray) (x : Pl.Shp) (a : Option Addr) (n c k : Nat) (w : World) (hf : x.fn ≠ 5 /\ x.fn ≠ 6 /\ x.fn ≠ 22 /\ x.fn ≠ 15 /\ x.fn ≠ 16) (hs : 0 < s.size) (hz : data.size <= 250)
    (HR : ∀ W : World, Below w.heap.size w W -> Calls Tryz.prog 145 #[.pointer (some ⟨d, 3, none⟩), shV x (.slice a n c)] W fun e w' => e = .returned (.string data) /\ Below W.heap.size W w') :
    Calls Tryz.prog 116 #[reqV s x (.slice a n c) k, .pointer (some ⟨d, 3, none⟩)] w fun e w' => e = .returned (.string (toldB s data)) /\ Below w.heap.size w w' := by
  obtain ⟨W, hW⟩ : ∃ W, W = w.alloc (.cells #[.string s, .int .i64 (x.fn : Nat), .int .i64 (x.tab : Nat), .int .i64 (x.frm : Nat), .int .i64 (x.cnt : Nat), .int .i64 (x.into : Nat), .int .i64 (x.to : Nat), .int .i64 (x.many : Nat), .slice a n c, .int .u8 (k : Nat)] 146) := ⟨_, rfl⟩
  have hWb : Below w.heap.size w W := by rw [hW]; exact bel_alloc (Below.refl _ _) _
  have hWg : W.heap[w.heap.size]? = some (.cells #[.string s, .int .i64 (x.fn : Nat), .int .i64 (x.tab : Nat), .int .i64 (x.frm : Nat), .int .i64 (x.cnt : Nat), .int .i64 (x.into : Nat), .int .i64 (x.to : Nat), .int .i64 (x.many : Nat), .slice a n c, .int .u8 (k : Nat)] 146 (0, 0)) := by rw [hW]; exact heap_alloc_new w _
  have HRW := hideF (HR W hWb)
  have HWb := hideF hWb
  have HWg := hideF hWg
  have gb := Pl.get_byt s
  have hs0' := Pl.byt_lt s 0
  have hsI : (0 : Int) < (s.size : Int) := by omega
  have hlim : ¬ 9223372036854775807 < 2 + data.size := by omega
  have hWl : W.heap.size = w.heap.size + 1 := by rw [hW]; simp
  have c2 : ∀ (V : World) (g : Nat) (p q : Int), V.cell? ⟨g, 0, none⟩ = some (.int .u8 p) -> V.cell? ⟨g, 1, none⟩ = some (.int .u8 q) -> (convert 114 9 (.slice (some ⟨g, 0, none⟩) 2 2)).run Tryz.prog V = .ok (.string ⟨#[UInt8.ofNat p.toNat, UInt8.ofNat q.toNat]⟩) V := fun V g p q h0 h1 => by
    have := conv_row V g 2 2 [p, q] rfl (fun j y hj => by
      match j, hj with
      | 0, hj => simp at hj; subst hj; exact h0
      | 1, hj => simp at hj; subst hj; exact h1)
    exact this
  obtain ⟨r0, r1, r2, r3, r4, r5, r6, r7, r8, r9⟩ := cells10 hWg
  unfold reqV
  clear HR hWb hWg
  have t5 : ((x.fn : Int) == 5) = false := by rw [beq_eq_false_iff_ne]; omega
  have t6 : ((x.fn : Int) == 6) = false := by rw [beq_eq_false_iff_ne]; omega
  have t22 : ((x.fn : Int) == 22) = false := by rw [beq_eq_false_iff_ne]; omega
  have t15 : ((x.fn : Int) == 15) = false := by rw [beq_eq_false_iff_ne]; omega
  have t16 : ((x.fn : Int) == 16) = false := by rw [beq_eq_false_iff_ne]; omega
  clear hf
  go_enter Tryz.func116, Tryz.ntmps116
  go_wp2_with fail
  rw [<- hW]
  clear hW
  refine HRW.out.mono ?_
  rintro e w1 ⟨rfl, hb1⟩
  have hs1 := hb1.size
  have hg1 := (hb1.block w.heap.size (by omega)).trans HWg.out
  have HB1 := hideF (bel_then HWb.out hb1)
  clear r0 r1 r2 r3 r4 r5 r6 r7 r8 r9 hb1
  obtain ⟨r0, r1, r2, r3, r4, r5, r6, r7, r8, r9⟩ := cells10 hg1
  clear hg1
  have ew : IntKind.u8.wrap (data.size : Int) = (data.size : Int) := by rw [IntKind.wrap_u8]; omega
  have hlt : w.heap.size < w1.heap.size := by omega
  go_wp2_with fail
  go_ret
  refine ⟨?_, bel_alloc HB1.out _⟩
  unfold toldB
  rfl
def maskN (n a o : Nat) : Nat := (n &&& a) ||| (o &&& (65535 ^^^ a))
theorem maskN_lt (n a o : Nat) (ha : a < 65536) (ho : o < 65536) : maskN n a o < 65536 := by
  unfold maskN
  have h1 : n &&& a < 2 ^ 16 := Nat.lt_of_le_of_lt Nat.and_le_right ha
  have h2 : o &&& (65535 ^^^ a) < 2 ^ 16 := Nat.lt_of_le_of_lt Nat.and_le_left ho
  exact Nat.or_lt_two_pow h1 h2
theorem mask_bits (n a o : Nat) (hn : n < 65536) (ha : a < 65536) (ho : o < 65536) : bits .or .i64 (bits .and .i64 (n : Int) (a : Int)) (bits .andNot .i64 (o : Int) (a : Int)) = ((maskN n a o : Nat) : Int) := by
  have key : ∀ m : Nat, m < 65536 -> (BitVec.ofInt 64 (m : Int)).toNat = m := fun m hm => by rw [BitVec.ofInt_natCast, BitVec.toNat_ofNat]; exact Nat.mod_eq_of_lt (by omega)
  have w1 : n &&& a < 65536 := Nat.lt_of_le_of_lt Nat.and_le_right ha
  have w2 : o &&& (65535 ^^^ a) < 65536 := Nat.lt_of_le_of_lt Nat.and_le_left ho
  have e1 : bits .and .i64 (n : Int) (a : Int) = ((n &&& a : Nat) : Int) := by
    show IntKind.i64.wrap ((BitVec.ofInt 64 (n : Int) &&& BitVec.ofInt 64 (a : Int)).toNat : Int) = _
    rw [BitVec.toNat_and, key n hn, key a ha, IntKind.wrap_i64]; omega
  have e2 : bits .andNot .i64 (o : Int) (a : Int) = ((o &&& (65535 ^^^ a) : Nat) : Int) := by
    show IntKind.i64.wrap ((BitVec.ofInt 64 (o : Int) &&& ~~~ BitVec.ofInt 64 (a : Int)).toNat : Int) = _
    have : (BitVec.ofInt 64 (o : Int) &&& ~~~ BitVec.ofInt 64 (a : Int)).toNat = o &&& (65535 ^^^ a) := by
      rw [BitVec.toNat_and, BitVec.toNat_not, key o ho, key a ha]
      apply Nat.eq_of_testBit_eq
      intro i
      rw [Nat.testBit_and, Nat.testBit_and, Nat.testBit_xor]
      by_cases hi : i < 16
      . have e64 : (2 ^ 64 - 1 - a).testBit i = !a.testBit i := by
          rw [Nat.sub_sub, Nat.add_comm 1 a, Nat.testBit_two_pow_sub_succ (by omega)]
          simp; omega
        have e16 : (65535 : Nat).testBit i = true := by
          rw [show (65535 : Nat) = 2 ^ 16 - 1 by rfl, Nat.testBit_two_pow_sub_one]; simp [hi]
        rw [e64, e16]; simp
      . have : o.testBit i = false := Nat.testBit_lt_two_pow (Nat.lt_of_lt_of_le (show o < 2 ^ 16 from ho) (Nat.pow_le_pow_right (Nat.zero_lt_two) (Nat.le_of_not_lt hi)))
        rw [this]; simp
    rw [this, IntKind.wrap_i64]; omega
  rw [e1, e2]
  show IntKind.i64.wrap ((BitVec.ofInt 64 ((n &&& a : Nat) : Int) ||| BitVec.ofInt 64 ((o &&& (65535 ^^^ a) : Nat) : Int)).toNat : Int) = _
  rw [BitVec.toNat_or, key _ w1, key _ w2, IntKind.wrap_i64]
  have := maskN_lt n a o ha ho
  unfold maskN at this ⊢
  omega
end Go.Proofs.YtcpldcojckhapaaGreat

set_option maxRecDepth 100000
namespace Go.Proofs.YtcpldcojckhapaaGreat
open Go.RowKit
theorem grid_set1 {w : World} {g s t : Nat} {f : Nat -> Int} {v : Int} (hG : Grid w g 3 s 1 (fun k _ => .int .i64 (f k))) (_ht : t < s) : Grid (w.setCell ⟨g, t, none⟩ (.int .i64 v)) g 3 s 1 (fun k _ => .int .i64 (if k = t then v else f k)) := by
  obtain ⟨cur, h1, h2, h3⟩ := hG
  refine ⟨_, heap_setCell_same w g t _ 3 _ h1, by rw [Array.size_setIfInBounds]; exact h2, fun i j hi hj => ?_⟩
  obtain rfl : j = 0 := by omega
  have h4 := h3 i 0 hi (by omega)
  rw [Nat.mul_one, Nat.add_zero] at h4 ⊢
  rw [Array.getElem?_setIfInBounds]
  show _ = some (Value.int .i64 (if i = t then v else f i))
  by_cases e : t = i
  . subst e
    rw [if_pos rfl, if_pos rfl, if_pos (Array.getElem?_eq_some_iff.1 h4).1]
  . rw [if_neg e, if_neg (fun e' => e e'.symm)]; exact h4
set_option maxRecDepth 100000 in
set_option maxHeartbeats 2000000 in
theorem write_mask (d L S B t n a o : Nat) (E : Nat -> Nat) (wv : Value) (D : Dev) (v : Value) (b : Bool) (w : World) (h : DevIn w d L S E wv D) (hv : w.ownsRow B 3 1 v 2 ([((a : Nat) : Int), ((o : Nat) : Int)].flatMap encI)) (ht : t < D.sz 2) (hn : D.ent 2 t = (n : Nat)) (hn1 : n < 65536) (ha1 : a < 65536) (ho1 : o < 65536)
    (hb : b = decide (t < D.kp 2)) :
    Calls Tryz.prog 115 #[.pointer (some ⟨d, 3, none⟩), shV ⟨22, 2, t, 1, 2, t, 1, [((a : Nat) : Int), ((o : Nat) : Int)]⟩ v] w fun e w' => e = .returned (.bool b) /\ DevIn w' d L S E wv { D with ent := entSet D t (maskN n a o) } /\ Chg1 (E 2) w w' := by
  obtain ⟨av, c, rfl, hat⟩ := own_view hv
  obtain ⟨gv, rfl, hgv, hcv⟩ := hat 0 (by omega)
  have v0 : w.cell? ⟨gv, 0, none⟩ = some (.int .i64 (a : Nat)) := hcv 0 (by omega)
  have v1 : w.cell? ⟨gv, 1, none⟩ = some (.int .i64 (o : Nat)) := hcv 1 (by omega)
  unfold shV
  have e2 := h.cellE (i := 2) (by omega)
  have k2 := h.cellK (i := 2) (by omega)
  have hdl := lt_of_block h.dev
  have hEl := (h.ent 2 (by omega)).lt
  have hc := (h.ent 2 (by omega)).cell (i := t) (j := 0) (by omega) (by omega)
  rw [Nat.mul_one, Nat.add_zero, hn] at hc
  obtain ⟨ce, hce⟩ := (h.ent 2 (by omega)).block
  have hfz : w.frozen? ⟨E 2, t, none⟩ = false := frozen_of_row _ _ _ _ _ hce
  have hto : (t : Int) < (D.sz 2 : Int) := by omega
  have hmb := mask_bits n a o hn1 ha1 ho1
  have HH := hideF h
  have HB := hideF hb
  have HMB := hideF hmb
  have HV0 := hideF v0
  have HV1 := hideF v1
  have HE2 := hideF e2
  have HC := hideF hc
  have HFZ := hideF hfz
  have HK2 := hideF k2
  have HCE := hideF hce
  clear h hv hat hcv hb hn hmb hce
  go_enter Tryz.func115, Tryz.ntmps115
  go_wp2_with fail
  go_quiet (fail)
  obtain ⟨X, hX⟩ : ∃ X, X = (w.alloc (.cells #[.int .i64 22, .int .i64 2, .int .i64 (t : Nat), .int .i64 1, .int .i64 2, .int .i64 (t : Nat), .int .i64 1, .slice (some ⟨gv, 0, none⟩) 2 c] 144)).drewN nq := ⟨_, rfl⟩
  have hXb : Below w.heap.size w X := by rw [hX]; exact below_drewN (bel_alloc (Below.refl _ _) _) _
  have hXg : X.heap[w.heap.size]? = some (.cells #[.int .i64 22, .int .i64 2, .int .i64 (t : Nat), .int .i64 1, .int .i64 2, .int .i64 (t : Nat), .int .i64 1, .slice (some ⟨gv, 0, none⟩) 2 c] 144 (0, 0)) := by rw [hX]; exact heap_alloc_new w _
  rw [<- hX]
  have hsX := hXb.size
  clear hX v0 v1 e2 k2 hc hfz
  obtain ⟨y0, y1, y2, y3, y4, y5, y6, y7, y8⟩ := cells8 hXg
  have v0 := ((bcell hXb).1 gv 0 hgv).trans HV0.out
  have v1 := ((bcell hXb).1 gv 1 hgv).trans HV1.out
  have hce := (hXb.block (E 2) hEl).trans HCE.out
  have hcX : X.cell? ⟨E 2, t, none⟩ = some (.int .i64 (n : Nat)) := ((bcell hXb).1 (E 2) t hEl).trans HC.out
  have hfX : X.frozen? ⟨E 2, t, none⟩ = false := frozen_of_row _ _ _ _ _ hce
  have HXb := hideF hXb
  have HXg := hideF hXg
  clear hXb hXg hce
  go_wp2_with fail
  go_quiet (fail)
  obtain ⟨Y, hY⟩ : ∃ Y, Y = X.drewN nq := ⟨_, rfl⟩
  have hYb : Below X.heap.size X Y := by rw [hY]; exact below_drewN (Below.refl _ _) _
  rw [<- hY]
  clear hY v0 v1 y0 y1 y2 y3 y4 y5 y6 y7 y8
  have hYg := (hYb.block _ (lt_of_block HXg.out)).trans HXg.out
  obtain ⟨y0, y1, y2, y3, y4, y5, y6, y7, y8⟩ := cells8 hYg
  have hlX : E 2 < X.heap.size := by omega
  have hcY : Y.cell? ⟨E 2, t, none⟩ = some (.int .i64 (n : Nat)) := ((bcell hYb).1 (E 2) t hlX).trans hcX
  have hYE := (hYb.block (E 2) hlX).trans ((HXb.out.block (E 2) hEl).trans HCE.out)
  have hfY : Y.frozen? ⟨E 2, t, none⟩ = false := frozen_of_row _ _ _ _ _ hYE
  have HYB := hideF (bel_then HXb.out hYb)
  have HYG := hideF hYg
  have HYE := hideF hYE
  have hsY := hYb.size
  clear hYb hYg hcX hfX hYE
  go_wp2_with fail
  go_region
  rw [HMB.out]
  obtain ⟨Z, hZ⟩ : ∃ Z, Z = (Y.setCell ⟨E 2, t, none⟩ (.int .i64 ((maskN n a o : Nat) : Int))).drew := ⟨_, rfl⟩
  have hDY := HH.out.belowQ HYB.out
  have hG2 := grid_set1 (v := ((maskN n a o : Nat) : Int)) (hDY.ent 2 (by omega)) ht
  have hC2 : Chg1 (E 2) Y (Y.setCell ⟨E 2, t, none⟩ (.int .i64 ((maskN n a o : Nat) : Int))) := (Chg1.refl _ _).setCell _ _
  have HDZ : Hid (DevIn Z d L S E wv { D with ent := entSet D t (maskN n a o) }) := by
    rw [hZ]
    refine DevIn.drewN (hDY.put (f := entSet D t (maskN n a o)) (j := 2) (by omega) hC2 (hG2.congr fun i _ _ _ => ?_) (fun i k hne => ?_)) 1
    . show Value.int .i64 (if i = t then _ else D.ent 2 i) = Value.int .i64 (entSet D t (maskN n a o) 2 i)
      unfold entSet
      by_cases e : i = t
      . rw [if_pos e, if_pos ⟨rfl, e⟩]
      . rw [if_neg e, if_neg (fun h => e h.2)]
    . unfold entSet; rw [if_neg (fun h => hne h.1)]
  have HCZ : Hid (Chg1 (E 2) w Z) := by rw [hZ]; exact ((Chg1.of_below _ HYB.out).trans hC2).drewN 1
  have hZg : Z.heap[w.heap.size]? = Y.heap[w.heap.size]? := by rw [hZ]; exact heap_setCell_other Y ⟨E 2, t, none⟩ w.heap.size _ (by show w.heap.size ≠ E 2; omega)
  rw [<- hZ]
  clear hZ hDY hG2 hC2 y0 y1 y2 y3 y4 y5 y6 y7 y8 hcY hfY
  obtain ⟨y0, y1, y2, y3, y4, y5, y6, y7, y8⟩ := cells8 (hZg.trans HYG.out)
  have k2 := HDZ.out.cellK (i := 2) (by omega)
  clear hZg
  by_cases m1 : t < D.kp 2
  . have m1' : (t : Int) < (D.kp 2 : Int) := by omega
    go_wp2_with fail
    go_quiet (fail)
    go_wp2
    go_ret
    refine ⟨?_, HDZ.out.drewN _, HCZ.out.drewN _⟩
    rw [HB.out]; simp [m1]
  . have m1' : decide ((t : Int) < (D.kp 2 : Int)) = false := by simp; omega
    go_wp2_with fail
    go_quiet (fail)
    go_wp2
    go_ret
    refine ⟨?_, HDZ.out.drewN _, HCZ.out.drewN _⟩
    rw [HB.out]; simp [m1]
end Go.Proofs.YtcpldcojckhapaaGreat

set_option maxRecDepth 100000
namespace Go.Proofs.YtcpldcojckhapaaGreat
open Go.RowKit
set_option maxRecDepth 100000 in
set_option maxHeartbeats 1000000 in
theorem do_gen (d L S B j : Nat) (E : Nat -> Nat) (wv : Value) (D : Dev) (s : ByteArray) (x : Pl.Shp) (v : Value) (b : Bool) (r : ByteArray) (f : Nat -> Nat -> Int) (w : World) (h : DevIn w d L S E wv D) (ht : x.tab < 4) (hi : x.into < 4) (hj : j < 4) (hv : w.ownsRow B 3 1 v x.vals.length (x.vals.flatMap encI)) (hhas : hasB D x = true) (h1 : x.frm <= 100000) (h2 : x.cnt <= 100000) (h3 : x.to <= 100000) (h4 : x.many <= 100000)
    (hW : ∀ w1 : World, DevIn w1 d L S E wv D -> w1.ownsRow B 3 1 v x.vals.length (x.vals.flatMap encI) -> Calls Tryz.prog 115 #[.pointer (some ⟨d, 3, none⟩), shV x v] w1 fun e w' => e = .returned (.bool b) /\ DevIn w' d L S E wv { D with ent := f } /\ Chg1 (E j) w1 w')
    (hA : ∀ (a : Option Addr) (n c : Nat) (w1 : World), v = .slice a n c -> DevIn w1 d L S E wv { D with ent := f } -> Calls Tryz.prog 116 #[reqV s x (.slice a n c) 0, .pointer (some ⟨d, 3, none⟩)] w1 fun e w' => e = .returned (.string r) /\ Below w1.heap.size w1 w') :
    Calls Tryz.prog 80 #[reqV s x v 0, .pointer (some ⟨d, 3, none⟩)] w fun e w' => e = .returned (.tuple #[.string r, .bool b]) /\ DevIn w' d L S E wv { D with ent := f } /\ Chg1 (E j) w w' := by
  obtain ⟨a, c, rfl, _⟩ := own_view hv
  obtain ⟨W, hWW⟩ : ∃ W, W = w.alloc (.cells #[.string s, .int .i64 (x.fn : Nat), .int .i64 (x.tab : Nat), .int .i64 (x.frm : Nat), .int .i64 (x.cnt : Nat), .int .i64 (x.into : Nat), .int .i64 (x.to : Nat), .int .i64 (x.many : Nat), .slice a x.vals.length c, .int .u8 0] 146) := ⟨_, rfl⟩
  have hWb : Below w.heap.size w W := by rw [hWW]; exact bel_alloc (Below.refl _ _) _
  have hWg : W.heap[w.heap.size]? = some (.cells #[.string s, .int .i64 (x.fn : Nat), .int .i64 (x.tab : Nat), .int .i64 (x.frm : Nat), .int .i64 (x.cnt : Nat), .int .i64 (x.into : Nat), .int .i64 (x.to : Nat), .int .i64 (x.many : Nat), .slice a x.vals.length c, .int .u8 0] 146 (0, 0)) := by rw [hWW]; exact heap_alloc_new w _
  have hWl : W.heap.size = w.heap.size + 1 := by rw [hWW]; simp
  have hEl := (h.ent j hj).lt
  obtain ⟨r0, r1, r2, r3, r4, r5, r6, r7, r8, r9⟩ := cells10 hWg
  have HHAS := hideF (has_any d L S E wv D x (.slice a x.vals.length c) x.vals.length a c W (h.belowQ hWb) ht hi h1 h2 h3 h4 rfl)
  have HH := hideF h
  have HV := hideF hv
  have HWb := hideF hWb
  have HWg := hideF hWg
  have HW := hideF hW
  have HA := hideF hA
  have HT := hideF hhas
  unfold reqV
  clear h hv hWb hWg hW hA hhas
  go_enter Tryz.func80, Tryz.ntmps80
  go_wp2_with fail
  rw [<- hWW]
  clear hWW
  refine HHAS.out.mono ?_
  rintro e w1 ⟨rfl, hb1⟩
  rw [HT.out]
  have hs1 := hb1.size
  have hg1 := (hb1.block w.heap.size (by omega)).trans HWg.out
  have HB1 := hideF (bel_then HWb.out hb1)
  clear r0 r1 r2 r3 r4 r5 r6 r7 r8 r9 hb1
  obtain ⟨r0, r1, r2, r3, r4, r5, r6, r7, r8, r9⟩ := cells10 hg1
  have HG1 := hideF hg1
  clear hg1
  go_wp2_with fail
  refine (HW.out w1 (HH.out.belowQ HB1.out) (ownsRow_below HV.out HB1.out)).mono ?_
  rintro e w2 ⟨rfl, hd2, hc2⟩
  have hs2 := hc2.size
  have hlt1 := lt_of_block HG1.out
  have hg2 := (hc2.block w.heap.size hlt1 (by omega)).trans HG1.out
  have HD2 := hideF hd2
  have HC2 := hideF ((Chg1.of_below (E j) HB1.out).trans hc2)
  clear r0 r1 r2 r3 r4 r5 r6 r7 r8 r9 hd2 hc2
  obtain ⟨r0, r1, r2, r3, r4, r5, r6, r7, r8, r9⟩ := cells10 hg2
  clear hg2
  go_wp2_with fail
  refine (HA.out a x.vals.length c w2 rfl HD2.out).mono ?_
  rintro e w3 ⟨rfl, hb3⟩
  have HD3 := hideF (HD2.out.belowQ hb3)
  have HC3 := hideF (HC2.out.then_below hb3)
  clear hb3
  go_wp2
  go_ret2
  exact ⟨rfl, HD3.out, HC3.out⟩
def excB (s : ByteArray) (k : Nat) : ByteArray := ⟨#[UInt8.ofNat (Pl.byt s 0) ||| 128, UInt8.ofNat k]⟩
theorem conv_two (V : World) (g : Nat) (p q : Int) (h0 : V.cell? ⟨g, 0, none⟩ = some (.int .u8 p)) (h1 : V.cell? ⟨g, 1, none⟩ = some (.int .u8 q)) : (convert 114 9 (.slice (some ⟨g, 0, none⟩) 2 2)).run Tryz.prog V = .ok (.string ⟨#[UInt8.ofNat p.toNat, UInt8.ofNat q.toNat]⟩) V :=
  conv_row V g 2 2 [p, q] rfl (fun j y hj => by
    match j, hj with
    | 0, hj => simp at hj; subst hj; exact h0
    | 1, hj => simp at hj; subst hj; exact h1)
set_option maxRecDepth 100000 in
set_option maxHeartbeats 1000000 in
theorem do_refused (d k : Nat) (s : ByteArray) (x : Pl.Shp) (v : Value) (n : Nat) (a : Option Addr) (c : Nat) (w : World) (hv : v = .slice a n c) (hk : 0 < k) (hk2 : k <= 255) (hs : 0 < s.size) :
    Calls Tryz.prog 80 #[reqV s x v k, .pointer (some ⟨d, 3, none⟩)] w fun e w' => e = .returned (.tuple #[.string (excB s k), .bool false]) /\ Below w.heap.size w w' := by
  subst hv
  have gb := Pl.get_byt s
  have hs0 := Pl.byt_lt s 0
  have hsI : (0 : Int) < (s.size : Int) := by omega
  have hkI : ((k : Int) == 0) = false := by rw [beq_eq_false_iff_ne]; omega
  have hor : bits .or .u8 ((Pl.byt s 0 : Nat) : Int) 128 = ((Pl.byt s 0 ||| 128 : Nat) : Int) := u8_or_nat _ 128 hs0 (by omega)
  have c2 := conv_two
  unfold reqV
  go_enter Tryz.func80, Tryz.ntmps80
  go_wp2_with fail
  go_ret2
  exact ⟨rfl, bel_alloc (bel_alloc (Below.refl _ _) _) _⟩
set_option maxRecDepth 100000 in
set_option maxHeartbeats 1000000 in
theorem do_nothere (d L S : Nat) (E : Nat -> Nat) (wv : Value) (D : Dev) (s : ByteArray) (x : Pl.Shp) (v : Value) (n : Nat) (a : Option Addr) (c : Nat) (w : World) (h : DevIn w d L S E wv D) (ht : x.tab < 4) (hi : x.into < 4) (h1 : x.frm <= 100000) (h2 : x.cnt <= 100000) (h3 : x.to <= 100000) (h4 : x.many <= 100000) (hv : v = .slice a n c) (hhas : hasB D x = false) (hs : 0 < s.size) :
    Calls Tryz.prog 80 #[reqV s x v 0, .pointer (some ⟨d, 3, none⟩)] w fun e w' => e = .returned (.tuple #[.string (excB s 2), .bool false]) /\ Below w.heap.size w w' := by
  subst hv
  obtain ⟨W, hWW⟩ : ∃ W, W = w.alloc (.cells #[.string s, .int .i64 (x.fn : Nat), .int .i64 (x.tab : Nat), .int .i64 (x.frm : Nat), .int .i64 (x.cnt : Nat), .int .i64 (x.into : Nat), .int .i64 (x.to : Nat), .int .i64 (x.many : Nat), .slice a n c, .int .u8 0] 146) := ⟨_, rfl⟩
  have hWb : Below w.heap.size w W := by rw [hWW]; exact bel_alloc (Below.refl _ _) _
  have hWg : W.heap[w.heap.size]? = some (.cells #[.string s, .int .i64 (x.fn : Nat), .int .i64 (x.tab : Nat), .int .i64 (x.frm : Nat), .int .i64 (x.cnt : Nat), .int .i64 (x.into : Nat), .int .i64 (x.to : Nat), .int .i64 (x.many : Nat), .slice a n c, .int .u8 0] 146 (0, 0)) := by rw [hWW]; exact heap_alloc_new w _
  have hWl : W.heap.size = w.heap.size + 1 := by rw [hWW]; simp
  obtain ⟨r0, r1, r2, r3, r4, r5, r6, r7, r8, r9⟩ := cells10 hWg
  have HHAS := hideF (has_any d L S E wv D x (.slice a n c) n a c W (h.belowQ hWb) ht hi h1 h2 h3 h4 rfl)
  have gb := Pl.get_byt s
  have hs0 := Pl.byt_lt s 0
  have hsI : (0 : Int) < (s.size : Int) := by omega
  have hor : bits .or .u8 ((Pl.byt s 0 : Nat) : Int) 128 = ((Pl.byt s 0 ||| 128 : Nat) : Int) := u8_or_nat _ 128 hs0 (by omega)
  have c2 := conv_two
  have HWb := hideF hWb
  have HWg := hideF hWg
  have HT := hideF hhas
  unfold reqV
  clear h hWb hWg hhas
  go_enter Tryz.func80, Tryz.ntmps80
  go_wp2_with fail
  rw [<- hWW]
  clear hWW
  refine HHAS.out.mono ?_
  rintro e w1 ⟨rfl, hb1⟩
  rw [HT.out]
  have hs1 := hb1.size
  have hg1 := (hb1.block w.heap.size (by omega)).trans HWg.out
  have HB1 := hideF (bel_then HWb.out hb1)
  clear r0 r1 r2 r3 r4 r5 r6 r7 r8 r9 hb1
  obtain ⟨r0, r1, r2, r3, r4, r5, r6, r7, r8, r9⟩ := cells10 hg1
  clear hg1
  have hlt : w.heap.size < w1.heap.size := by omega
  go_wp2_with fail
  go_ret2
  exact ⟨rfl, bel_alloc HB1.out _⟩
end Go.Proofs.YtcpldcojckhapaaGreat
