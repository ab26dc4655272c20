/-
  The walk of the law Shaped.
-/
import Derived.Test.YtcpldcojckhapaaSd2
import Derived.Test.YtcpldcojckhapaaSm
import Derived.Test.YtcpldcojckhapaaR1
import Derived.Deep.CutBlock
import Derived.Deep.RegionHeld3
namespace Go.Proofs.Ytcpldcojckhapaa
open Go.RowKit
set_option linter.unusedVariables false

/-- The values that are handed in lie there. -/
def Vals (w : World) (ad : Option Addr) (len : Nat) (vals : Nat → Int) : Prop :=
  ∀ j, j < len → ∃ g o, ad = some ⟨g, o, none⟩ ∧ g < w.heap.size ∧ w.cell? ⟨g, o + j, none⟩ = some (.int .i64 (vals j)) ∧ -9223372036854775808 ≤ vals j ∧ vals j ≤ 9223372036854775807

theorem new_ints' (W : World) (x : Int) (B g : Nat) (hg : g = W.heap.size) (hB : B ≤ W.heap.size) : (W.alloc (.cells #[.int .i64 x] 3)).ownsRow B 3 1 (.slice (some ⟨g, 0, none⟩) 1 1) 1 ([x].flatMap encI) := by
  subst hg; exact new_ints W x B hB
theorem infoU8 : (Try.prog.info? 5).map (fun i => (i.zero, i.size, i.bytes)) = some (some (.int .u8 0), 1, 1) := by kernel_rfl
theorem made_bytes (n : Nat) (h : n ≤ 100000) (W : World) : (Instr.makeSlice 45 (.int .i64 (n : Int)) (.int .i64 (n : Int))).run Try.prog W = .ok (.slice (some ⟨W.heap.size, 0, none⟩) n n) (W.alloc (.cells (madeCells #[.int .u8 0] n) 5)) :=
  run_make_row' 45 5 _ 1 Try.underlying45 infoU8 rfl .i64 .i64 n (by omega) (by omega) W
theorem pkA_zero (bs : Nat → Nat) (pl : Nat) : pkA bs 0 pl = madeCells #[.int .u8 0] pl := by
  apply Array.toList_inj.1
  rw [toList_madeCells_one]
  simp [pkA, Pl.pkd, List.map_const']
theorem pkA_step (bs : Nat → Nat) (q pl : Nat) : (pkA bs q pl).setIfInBounds (q / 8) (.int .u8 (Pl.pkd bs (q + 1) (q / 8) : Nat)) = pkA bs (q + 1) pl := by
  apply Array.ext_getElem?
  intro j
  rw [Array.getElem?_setIfInBounds]
  by_cases hj : j < pl
  · rw [pkA_at bs (q + 1) pl j hj]
    by_cases e : q / 8 = j
    · subst e; simp [pkA, hj]
    · rw [if_neg e, pkA_at bs q pl j hj, Pl.pkd, if_neg e]
  · have h1 : (pkA bs q pl)[j]? = none := by simp [pkA]; omega
    have h2 : (pkA bs (q + 1) pl)[j]? = none := by simp [pkA]; omega
    rw [h1, h2]
    split
    · rename_i e
      rw [if_neg (by simp [pkA]; omega)]
    · rfl
theorem u8_or_nat (a b : Nat) (ha : a < 256) (hb : b < 256) : bits .or .u8 (a : Int) (b : Int) = ((a ||| b : Nat) : Int) := by
  have hx : a ||| b < 2 ^ 8 := Nat.or_lt_two_pow (by omega) (by omega)
  show IntKind.u8.wrap ((BitVec.ofInt 8 (a : Int) ||| BitVec.ofInt 8 (b : Int)).toNat : Int) = _
  have e1 : (BitVec.ofInt 8 (a : Int)).toNat = a := by rw [BitVec.ofInt_natCast, BitVec.toNat_ofNat]; exact Nat.mod_eq_of_lt (by omega)
  have e2 : (BitVec.ofInt 8 (b : Int)).toNat = b := by rw [BitVec.ofInt_natCast, BitVec.toNat_ofNat]; exact Nat.mod_eq_of_lt (by omega)
  rw [BitVec.toNat_or, e1, e2, IntKind.wrap_u8]
  omega
theorem pack_bit (bs : Nat → Nat) (hb : ∀ i, bs i < 2) (q : Nat) : bits BinOp.or IntKind.u8 ((Pl.pkd bs q (q / 8) : Nat) : Int) (wrap64 (((bs q : Nat) : Int) * 2 ^ (q % 8)) % 256) = ((Pl.pkd bs (q + 1) (q / 8) : Nat) : Int) := by
  have h1 := Pl.pkd_byte bs hb q (q / 8)
  have h2 := Pl.pkd_room bs hb q
  have h3 := hb q
  have h4 : 2 ^ (q % 8) ≤ 2 ^ 7 := Nat.pow_le_pow_right (by omega) (by omega)
  have e : ((bs q : Nat) : Int) * 2 ^ (q % 8) = ((bs q * 2 ^ (q % 8) : Nat) : Int) := by rw [Int.natCast_mul, Int.natCast_pow]; rfl
  obtain ⟨V, hV⟩ : ∃ V, V = bs q * 2 ^ (q % 8) := ⟨_, rfl⟩
  have hVl : V < 256 := by
    rcases (show bs q = 0 ∨ bs q = 1 by omega) with r | r <;> rw [hV, r] <;> omega
  have hVm : V % 2 ^ (q % 8) = 0 := by rw [hV]; exact Nat.mul_mod_left _ _
  have ew : wrap64 ((V : Nat) : Int) % 256 = ((V : Nat) : Int) := by simp only [wrap64]; omega
  rw [e, ← hV, ew, u8_or_nat _ _ h1 hVl, Nat.or_comm, nat_join (q % 8) V _ hVm h2, Pl.pkd, if_pos rfl, ← hV, Nat.add_comm]
theorem frame_fill' (T B : Array Value) (ks : List Nat) (h : ∀ k, k ∉ ks → T[k]? = B[k]?) (hs : T.size = 303) (hB : B.size = 303) : T = ks.foldl (fun A k => A.setIfInBounds k (T.getD k undef)) B := frame_fill T B ks (hs.trans hB.symm) h
theorem bel_alloc2 {w W : World} (h : Below w.heap.size w W) (o o' : Obj) : Below w.heap.size w ((W.alloc o).alloc o') := bel_alloc (bel_alloc h o) o'
set_option maxRecDepth 100000 in
set_option maxHeartbeats 8000000 in
theorem shaped_walk (a n b : Int) (ad : Option Addr) (len cap : Nat) (vals : Nat → Int) (w : World) (ha : -9223372036854775808 ≤ a ∧ a ≤ 9223372036854775807) (hn : -9223372036854775808 ≤ n ∧ n ≤ 9223372036854775807) (hb : -9223372036854775808 ≤ b ∧ b ≤ 9223372036854775807)
    (hv : Vals w ad len vals) (hlen : len ≤ 9223372036854775807) :
    Calls Try.prog 7 #[.int .i64 a, .int .i64 n, .int .i64 b, .slice ad len cap] w fun e w' => e = .returned (.bool true) ∧ Below w.heap.size w w' := by
  obtain ⟨i0, hi, hz0, hz1, hz2⟩ := info_parts Try.infoEI
  obtain ⟨x, hx⟩ : ∃ x : Nat, pk a 65536 = x := ⟨(pk a 65536).toNat, by have := pk_nonneg a 65536 (by omega); omega⟩
  obtain ⟨y, hy⟩ : ∃ x : Nat, pk b 65536 = x := ⟨(pk b 65536).toNat, by have := pk_nonneg b 65536 (by omega); omega⟩
  obtain ⟨c, hc⟩ : ∃ x : Nat, pk n 125 = x := ⟨(pk n 125).toNat, by have := pk_nonneg n 125 (by omega); omega⟩
  have hxl : x < 65536 := by have := pk_lt a 65536 (by omega); omega
  have hyl : y < 65536 := by have := pk_lt b 65536 (by omega); omega
  have hcl : c < 125 := by have := pk_lt n 125 (by omega); omega
  have HV := hideF hv
  obtain ⟨c1, hc1⟩ : ∃ c1 : Nat, (1 : Int) + (c : Int) = (c1 : Nat) := ⟨1 + c, by omega⟩
  have hc1l : c1 ≤ 125 := by omega
  have hc1g : 1 ≤ c1 := by omega
  obtain ⟨wv, hwv⟩ : ∃ f : Nat → Nat, f = fun j => (pk (vals j) 65536).toNat := ⟨_, rfl⟩
  obtain ⟨bv, hbv⟩ : ∃ f : Nat → Nat, f = fun j => (pk (vals j) 2).toNat := ⟨_, rfl⟩
  have hwl : ∀ j, wv j < 65536 := fun j => by rw [hwv]; have := pk_lt (vals j) 65536 (by omega); have := pk_nonneg (vals j) 65536 (by omega); simp only; omega
  have hbl : ∀ j, bv j < 2 := fun j => by rw [hbv]; have := pk_lt (vals j) 2 (by omega); have := pk_nonneg (vals j) 2 (by omega); simp only; omega
  have HWE : Hid (∀ j, pk (vals j) 65536 = (wv j : Nat)) := fun j => by rw [hwv]; have := pk_nonneg (vals j) 65536 (by omega); simp only; omega
  have HBE : Hid (∀ j, pk (vals j) 2 = (bv j : Nat)) := fun j => by rw [hbv]; have := pk_nonneg (vals j) 2 (by omega); simp only; omega
  have HWL := hideF hwl
  have HBL := hideF hbl
  clear hwv hbv hwl hbl hv
  go_enter Try.func7, Try.ntmps7
  go_wp2_with fail
  refine (pick_any a 65536 _ ha.1 ha.2 (by omega) (by omega)).mono ?_
  rintro e w1 ⟨rfl, hw1⟩
  rw [hw1]
  clear hw1 w1
  rw [hx]
  go_wp2_with fail
  refine (pick_any b 65536 _ hb.1 hb.2 (by omega) (by omega)).mono ?_
  rintro e w1 ⟨rfl, hw1⟩
  rw [hw1]
  clear hw1 w1
  rw [hy]
  go_wp2_with fail
  refine (pick_any n 125 _ hn.1 hn.2 (by omega) (by omega)).mono ?_
  rintro e w1 ⟨rfl, hw1⟩
  rw [hw1]
  clear hw1 w1
  rw [hc]
  have HX := hideF hx
  have HY := hideF hy
  have HC := hideF hc
  clear hx hy hc
  go_upto_block 0 with fail
  go_cut [12, 13] from 15 to 62 (fun v u wr => ∃ q : Nat, q ≤ 100 ∧ wr.ownsRow w.heap.size 3 1 v q ((numL wv q).flatMap encI) ∧ wr.ownsRow w.heap.size 3 1 u q ((numL bv q).flatMap encI) ∧ (∀ g, v.ownBlock = some g → u.ownBlock ≠ some g) ∧ Below w.heap.size w wr)
  case first =>
    go_wp2_with fail
    go_loopw [12, 13, 15] (fun v u i wr => ∃ q : Nat, q ≤ len ∧ q ≤ 100 ∧ i = .int .i64 (q : Nat) ∧ wr.ownsRow w.heap.size 3 1 v q ((numL wv q).flatMap encI) ∧ wr.ownsRow w.heap.size 3 1 u q ((numL bv q).flatMap encI) ∧ (∀ g, v.ownBlock = some g → u.ownBlock ≠ some g) ∧ Below w.heap.size w wr) (fun _ _ i _ => 100 - (intOf i).toNat)
    case atStart => exact ⟨0, Nat.zero_le _, Nat.zero_le _, rfl, World.ownsRow_nil _ _ _ _, World.ownsRow_nil _ _ _ _, fun g hg => by simp [Value.ownBlock] at hg, Below.refl _ _⟩
    case round =>
      obtain ⟨q, hql, hq100, rfl, hown, hown', hap, hbel⟩ := hrel
      by_cases hlt : q < len ∧ q < 100
      · obtain ⟨hlt1, hlt2⟩ := hlt
        obtain ⟨g, o, rfl, hg, hcell, hv1, hv2⟩ := HV.out q hlt1
        have hcr : wr.cell? ⟨g, o + q, none⟩ = some (.int .i64 (vals q)) := (hbel.cell (p := ⟨g, o + q, none⟩) hg).trans hcell
        have HO := hideF hown
        have HO' := hideF hown'
        have HAP := hideF hap
        have HBEL := hideF hbel
        have HCELL := hideF hcell
        clear hown hown' hap hbel hcell
        go_wp2_with fail
        refine (pick_any (vals q) 65536 _ hv1 hv2 (by omega) (by omega)).mono ?_
        rintro e w1 ⟨rfl, hw1⟩
        rw [hw1, HWE.out q]
        clear hw1 w1
        have hsz := HBEL.out.size
        go_wp2_with (at_builtin; refine wpList_append_keep rfl (.tmp 47) (.tmp 53) 30 rfl w.heap.size 3 i0 (.int .i64 0) 1 8 Try.underlying30 hi hz0 hz1 hz2 rfl (by decide) u12 q _ rfl (HO.out.alloc _) ⟨wr.heap.size, 0, none⟩ 1 1 (encI (wv q : Nat)) rfl rfl (one_new _ _ rfl _) (one_one _) (by unfold maxLen; omega) (by omega) (by simp; omega) ?_; intro v2 w2 hown2 hgr2 _ hfr2; have hb2 : Below w.heap.size w w2 := (HBEL.out.alloc hsz _).grown hgr2 (by simp; omega) (fun k hk => (HO.out.lt k hk).1); have hcr2 : w2.cell? ⟨g, o + q, none⟩ = some (.int .i64 (vals q)) := (hb2.cell (p := ⟨g, o + q, none⟩) hg).trans HCELL.out; have hfresh : ∀ k, v2.ownBlock = some k → u13.ownBlock ≠ some k := (fun k hk ee => by rcases hfr2 k hk with r | r; exact HAP.out k r ee; have := (HO'.out.lt k ee).2; simp at r; omega); have hown2' := own_same (w' := w2) (HO'.out.alloc (.cells #[.int .i64 (wv q : Nat)] 3)) (fun k hk => hgr2.block k (by have := (HO'.out.lt k hk).2; simp; omega) (fun ee => HAP.out k ee.symm hk)); have H2 := hideF hown2; have H2' := hideF hown2'; have HB2 := hideF hb2; have HF2 := hideF hfresh; clear hgr2 hfr2 hown2 hown2' hb2 hfresh)
        refine (pick_any (vals q) 2 _ hv1 hv2 (by omega) (by omega)).mono ?_
        rintro e w1 ⟨rfl, hw1⟩
        rw [hw1, HBE.out q]
        clear hw1 w1
        have hsz2 := HB2.out.size
        go_wp2_with (at_builtin; refine wpList_append_keep rfl (.tmp 55) (.tmp 61) 30 rfl w.heap.size 3 i0 (.int .i64 0) 1 8 Try.underlying30 hi hz0 hz1 hz2 rfl (by decide) u13 q _ rfl (H2'.out.alloc _) ⟨w2.heap.size, 0, none⟩ 1 1 (encI (bv q : Nat)) rfl rfl (one_new _ _ rfl _) (one_one _) (by unfold maxLen; omega) (by omega) (by simp; omega) ?_; intro v3 w3 hown3 hgr3 _ hfr3)
        have hb3 : Below w.heap.size w w3 := (HB2.out.alloc hsz2 _).grown hgr3 (by simp; omega) (fun k hk => (H2'.out.lt k hk).1)
        have hown3' := own_same (w' := w3) (H2.out.alloc (.cells #[.int .i64 (bv q : Nat)] 3)) (fun k hk => hgr3.block k (by have := (H2.out.lt k hk).2; simp; omega) (fun ee => HF2.out k hk ee.symm))
        have hap3 : ∀ k, v2.ownBlock = some k → v3.ownBlock ≠ some k := fun k hk ee => by
          rcases hfr3 k ee with r | r
          · exact HF2.out k hk r
          · have := (H2.out.lt k hk).2
            simp at r
            omega
        have H3 := hideF hown3
        have H3' := hideF hown3'
        have HAP3 := hideF hap3
        clear hgr3 hfr3 hown3 hown3' hap3
        go_wp2
        go_roundw
        case rel => exact ⟨q + 1, by omega, by omega, by go_num, by rw [numL_succ, List.flatMap_append]; simpa using H3'.out, by rw [numL_succ, List.flatMap_append]; simpa using H3.out, HAP3.out, hb3⟩
        case measure => simp [intOf]; omega
      · by_cases hA : q < len
        · have hB : ¬ q < 100 := fun h => hlt ⟨hA, h⟩
          go_wp2
          go_meet
          case rel => exact ⟨q, hq100, hown, hown', hap, hbel⟩
        · go_wp2
          go_meet
          case rel => exact ⟨q, hq100, hown, hown', hap, hbel⟩
  case rest =>
    obtain ⟨q, hq100, hown, hown', _, hbel⟩ := hcut
    obtain ⟨a12, k12, rfl, _⟩ := own_view hown
    obtain ⟨a13, k13, rfl, _⟩ := own_view hown'
    have HO := hideF hown
    have HO' := hideF hown'
    clear hown hown'
    go_upto_if 65 with fail
    go_cut [12, 13] from 15 to 67 (fun v u wr => ∃ (m : Nat) (ws bs : Nat → Nat), 1 ≤ m ∧ m ≤ 100 ∧ (∀ i, ws i < 65536) ∧ (∀ i, bs i < 2) ∧ wr.ownsRow w.heap.size 3 1 v m ((numL ws m).flatMap encI) ∧ wr.ownsRow w.heap.size 3 1 u m ((numL bs m).flatMap encI) ∧ Below w.heap.size w wr)
    case first =>
      by_cases hq0 : q = 0
      · have t0 : ((q : Int) == 0) = true := by rw [beq_iff_eq]; omega
        clear hq0
        go_wp2
        go_meet
        case rel => exact ⟨1, fun _ => 7, fun _ => 1, by omega, by omega, fun _ => (by decide : 7 < 65536), fun _ => (by decide : 1 < 2), (new_ints wc 7 _ hbel.size).alloc _, new_ints' (wc.alloc _) 1 _ _ (by simp) (by have := hbel.size; simp; omega), bel_alloc2 hbel _ _⟩
      · have t0 : ((q : Int) == 0) = false := by rw [beq_eq_false_iff_ne]; omega
        go_wp2
        go_meet
        case rel => exact ⟨q, wv, bv, by omega, hq100, HWL.out, HBL.out, HO.out, HO'.out, hbel⟩
    case rest =>
      obtain ⟨m, ws, bs, hm1, hm, hwl, hbl, hown, hown', hbel2⟩ := hcut
      clear HO HO' hbel HWE HBE HWL HBL HV
      obtain ⟨a12, k12, rfl, hv12⟩ := own_view hown
      obtain ⟨a13, k13, rfl, hv13⟩ := own_view hown'
      obtain ⟨pl, hpl⟩ : ∃ pl, pl = (m + 7) / 8 := ⟨_, rfl⟩
      have hpl1 : pl ≤ 13 := by omega
      have hpe : ((m : Int) + 7) / 8 = (pl : Nat) := by omega
      have hmk := made_bytes pl (by omega)
      have HO := hideF hown
      have HO' := hideF hown'
      have HV12 := hideF hv12
      have HV13 := hideF hv13
      have HB2 := hideF hbel2
      have HPL := hideF hpl
      clear hown hown' hv12 hv13 hbel2 hpl
      go_wp2_with fail
      clear hpe hmk
      go_loopw [14, 17] (fun s i wr => ∃ q : Nat, q ≤ m ∧ s = .string (Pl.catB ws q) ∧ i = .int .i64 (q : Nat) ∧ wr.heap[wc.heap.size]? = some (.cells (pkA bs q pl) 5 (0, 0)) ∧ Below wc.heap.size wc wr) (fun _ i _ => m - (intOf i).toNat)
      case atStart => exact ⟨0, Nat.zero_le _, rfl, rfl, by rw [pkA_zero]; exact heap_alloc_new wc _, bel_alloc (Below.refl _ _) _⟩
      case round =>
        obtain ⟨q, hq, rfl, rfl, hpk, hbr⟩ := hrel
        by_cases hlt : q < m
        · obtain ⟨g12, rfl, hg12, hc12⟩ := HV12.out q hlt
          obtain ⟨g13, rfl, hg13, hc13⟩ := HV13.out q hlt
          have c12 : wr.cell? ⟨g12, q, none⟩ = some (.int .i64 (ws q : Nat)) := ((hbr.cell (p := ⟨g12, q, none⟩) hg12).trans (hc12 q (by omega))).trans (encI_at _ _ _ (numL_at ws m q hlt))
          have c13 : wc.cell? ⟨g13, q, none⟩ = some (.int .i64 (bs q : Nat)) := (hc13 q (by omega)).trans (encI_at _ _ _ (numL_at bs m q hlt))
          have hwq := hwl q
          have hbq := hbl q
          have hq8 : q / 8 < pl := by have := HPL.out; omega
          clear hc12 hc13
          go_wp2_with fail
          refine (two_any (ws q) _ hwq).mono ?_
          rintro e w1 ⟨rfl, hb1⟩
          have hpk1 := (hb1.block wc.heap.size (lt_of_block hpk)).trans hpk
          have hbr1 := bel_then hbr hb1
          have c13' : w1.cell? ⟨g13, q, none⟩ = some (.int .i64 (bs q : Nat)) := (hbr1.cell (p := ⟨g13, q, none⟩) hg13).trans c13
          have hsz : (Pl.catB ws q).size = 2 * q := Pl.catB_size ws q
          have hs2 : (twoB (ws q)).size = 2 := rfl
          have hlim : ¬ 9223372036854775807 < (Pl.catB ws q).size + (twoB (ws q)).size := by omega
          have hcp : w1.cell? ⟨wc.heap.size, q / 8, none⟩ = some (.int .u8 (Pl.pkd bs q (q / 8) : Nat)) := by rw [cell_of_row w1 _ _ _ 5 (0, 0) hpk1]; exact pkA_at bs q pl _ hq8
          have hfp : w1.frozen? ⟨wc.heap.size, q / 8, none⟩ = false := frozen_of_row w1 _ _ _ 5 hpk1
          have hpb := Pl.pkd_byte bs hbl q (q / 8)
          clear hb1 hpk hbr c12 c13
          go_wp2_with fail
          go_region
          rw [pack_bit bs hbl q]
          go_wp2
          go_roundw
          case rel => exact ⟨q + 1, by omega, rfl, by go_num, by
            show (w1.setCell ⟨wc.heap.size, q / 8, none⟩ (.int .u8 (Pl.pkd bs (q + 1) (q / 8) : Nat))).heap[wc.heap.size]? = _
            rw [heap_setCell_same w1 _ _ _ 5 _ hpk1, pkA_step], (hbr1.setCell (p := ⟨wc.heap.size, q / 8, none⟩) (Nat.le_refl _) _).drew⟩
          case measure => simp [intOf]; omega
        · obtain rfl : q = m := by omega
          have hO2 := ownsRow_below HO.out hbr
          have hO2' := ownsRow_below HO'.out hbr
          have hbw := bel_then HB2.out hbr
          have HOO := hideF hO2
          have HOO' := hideF hO2'
          have HBW := hideF hbw
          clear hO2 hO2' hbw
          go_upto_region 22 with fail
          go_cut [19] from 104 to 170 (fun v W => ∃ g : Nat, v = .slice (some ⟨g, 0, none⟩) 5 5 ∧ wr.heap.size ≤ g ∧ W.heap[g]? = some (.cells #[.string (Pl.hdB 3 x c1), .string (Pl.hdB 15 x q ++ oneB pl ++ Pl.packB bs q pl), .string (Pl.hdB 16 x q ++ oneB (2 * q) ++ Pl.catB ws q), .string (Pl.hdB 23 x c1 ++ twoB y ++ twoB q ++ oneB (2 * q) ++ Pl.catB ws q), .string (Pl.hdB 22 x y ++ twoB c1)] 9 (0, 0)) ∧ Below wr.heap.size wr W)
          case first J K' hJ hK =>
            have hctx : ∀ (a' : Act) (w' : World), Below wr.heap.size wr w' → a'.eval (.tmp 9) = .int .i64 (x : Nat) → a'.eval (.tmp 10) = .int .i64 (y : Nat) → a'.eval (.tmp 11) = .int .i64 (c1 : Nat) → a'.eval (.tmp 14) = .string (Pl.catB ws q) → a'.eval (.tmp 16) = .slice (some ⟨wc.heap.size, 0, none⟩) pl pl → a'.eval (.tmp 18) = .int .i64 (q : Nat) → Ctx22 a' w' x y c1 q pl wc.heap.size wr.heap.size (Pl.catB ws q) (Pl.packB bs q pl) := fun a' w' hb h9 h10 h11 h14 h16 h18 =>
              ⟨h9, h10, h11, h14, h16, h18, hxl, hyl, by omega, hm, hpl1, by rw [Pl.catB_size]; omega, Pl.packB_size _ _ _, hb.size, conv_pack w' _ _ _ _ ((hb.block _ (lt_of_block hpk)).trans hpk)⟩
            have HCTX := hideF hctx
            clear hctx
            refine region22 (by rfl) (by rfl) _ wr x y c1 q pl wc.heap.size (Pl.catB ws q) (Pl.packB bs q pl) (by rfl) (fun a' w' hb hk => HCTX.out a' w' hb (ev_of ((hk 9 (by omega)).trans rfl)) (ev_of ((hk 10 (by omega)).trans rfl)) (ev_of ((hk 11 (by omega)).trans rfl)) (ev_of ((hk 14 (by omega)).trans rfl)) (ev_of ((hk 16 (by omega)).trans rfl)) (ev_of ((hk 18 (by omega)).trans rfl))) ?_
            intro a0 W g hdf hts hsame hb hg h19 hh
            refine hK a0 W (Met.intro (hJ a0 W ⟨a0.tmps.getD 19 undef, a0.tmps.getD 104 undef, a0.tmps.getD 105 undef, a0.tmps.getD 106 undef, a0.tmps.getD 107 undef, a0.tmps.getD 108 undef, a0.tmps.getD 109 undef, a0.tmps.getD 110 undef, a0.tmps.getD 111 undef, a0.tmps.getD 112 undef, a0.tmps.getD 113 undef, a0.tmps.getD 114 undef, a0.tmps.getD 115 undef, a0.tmps.getD 116 undef, a0.tmps.getD 117 undef, a0.tmps.getD 118 undef, a0.tmps.getD 119 undef, a0.tmps.getD 120 undef, a0.tmps.getD 121 undef, a0.tmps.getD 122 undef, a0.tmps.getD 123 undef, a0.tmps.getD 124 undef, a0.tmps.getD 125 undef, a0.tmps.getD 126 undef, a0.tmps.getD 127 undef, a0.tmps.getD 128 undef, a0.tmps.getD 129 undef, a0.tmps.getD 130 undef, a0.tmps.getD 131 undef, a0.tmps.getD 132 undef, a0.tmps.getD 133 undef, a0.tmps.getD 134 undef, a0.tmps.getD 135 undef, a0.tmps.getD 136 undef, a0.tmps.getD 137 undef, a0.tmps.getD 138 undef, a0.tmps.getD 139 undef, a0.tmps.getD 140 undef, a0.tmps.getD 141 undef, a0.tmps.getD 142 undef, a0.tmps.getD 143 undef, a0.tmps.getD 144 undef, a0.tmps.getD 145 undef, a0.tmps.getD 146 undef, a0.tmps.getD 147 undef, a0.tmps.getD 148 undef, a0.tmps.getD 149 undef, a0.tmps.getD 150 undef, a0.tmps.getD 151 undef, a0.tmps.getD 152 undef, a0.tmps.getD 153 undef, a0.tmps.getD 154 undef, a0.tmps.getD 155 undef, a0.tmps.getD 156 undef, a0.tmps.getD 157 undef, a0.tmps.getD 158 undef, a0.tmps.getD 159 undef, a0.tmps.getD 160 undef, a0.tmps.getD 161 undef, a0.tmps.getD 162 undef, a0.tmps.getD 163 undef, a0.tmps.getD 164 undef, a0.tmps.getD 165 undef, a0.tmps.getD 166 undef, a0.tmps.getD 167 undef, a0.tmps.getD 168 undef, a0.tmps.getD 169 undef, a0.tmps.getD 170 undef, ⟨g, ?_, hg, hh, hb⟩, ?_⟩))
            · rw [Array.getD_eq_getD_getElem?, h19]; rfl
            · obtain ⟨T, ds⟩ := a0
              have hd : ds = [] := hdf
              subst hd
              have hf := frame_fill' T _ (19 :: List.range' 104 67) (fun k hk => hsame k (by simp only [List.mem_cons, List.mem_range'_1, not_or] at hk; omega) (by simp only [List.mem_cons, not_or] at hk; exact hk.1)) hts (by rfl)
              refine congrArg (fun t => Act.mk t []) (hf.trans ?_)
              kernel_rfl
          case rest =>
            obtain ⟨g5, rfl, hg5, hh5, hb5⟩ := hcut
            clear hpk hbr HV12 HV13 HO HO' HB2
            go_wp2_with fail
            obtain ⟨W0, hW0⟩ : ∃ W0, W0 = (wc.alloc (.cells #[.int .i64 (y : Nat), .int .i64 (c1 : Nat)] 3)).alloc (.cells #[.int .i64 3, .int .i64 2, .int .i64 (x : Nat), .int .i64 (c1 : Nat), .int .i64 0, .int .i64 0, .int .i64 0, .slice none 0 0, .int .i64 15, .int .i64 0, .int .i64 0, .int .i64 0, .int .i64 0, .int .i64 (x : Nat), .int .i64 (q : Nat), .slice a13 q k13, .int .i64 16, .int .i64 0, .int .i64 0, .int .i64 0, .int .i64 2, .int .i64 (x : Nat), .int .i64 (q : Nat), .slice a12 q k12, .int .i64 23, .int .i64 2, .int .i64 (x : Nat), .int .i64 (c1 : Nat), .int .i64 2, .int .i64 (y : Nat), .int .i64 (q : Nat), .slice a12 q k12, .int .i64 22, .int .i64 2, .int .i64 (x : Nat), .int .i64 1, .int .i64 2, .int .i64 (x : Nat), .int .i64 1, .slice (some ⟨wc.heap.size, 0, none⟩) 2 2] 48) := ⟨_, rfl⟩
            rw [← hW0]
            have hbW : Below wc.heap.size wc W0 := by rw [hW0]; exact bel_alloc2 (Below.refl _ _) _ _
            have hL0 := (hbW.block g5 (lt_of_block hh5)).trans hh5
            have hWg : W0.heap[wc.heap.size + 1]? = some (.cells #[.int .i64 3, .int .i64 2, .int .i64 (x : Nat), .int .i64 (c1 : Nat), .int .i64 0, .int .i64 0, .int .i64 0, .slice none 0 0, .int .i64 15, .int .i64 0, .int .i64 0, .int .i64 0, .int .i64 0, .int .i64 (x : Nat), .int .i64 (q : Nat), .slice a13 q k13, .int .i64 16, .int .i64 0, .int .i64 0, .int .i64 0, .int .i64 2, .int .i64 (x : Nat), .int .i64 (q : Nat), .slice a12 q k12, .int .i64 23, .int .i64 2, .int .i64 (x : Nat), .int .i64 (c1 : Nat), .int .i64 2, .int .i64 (y : Nat), .int .i64 (q : Nat), .slice a12 q k12, .int .i64 22, .int .i64 2, .int .i64 (x : Nat), .int .i64 1, .int .i64 2, .int .i64 (x : Nat), .int .i64 1, .slice (some ⟨wc.heap.size, 0, none⟩) 2 2] 48 (0, 0)) := by
              have := heap_alloc_new (wc.alloc (.cells #[.int .i64 (y : Nat), .int .i64 (c1 : Nat)] 3)) (.cells #[.int .i64 3, .int .i64 2, .int .i64 (x : Nat), .int .i64 (c1 : Nat), .int .i64 0, .int .i64 0, .int .i64 0, .slice none 0 0, .int .i64 15, .int .i64 0, .int .i64 0, .int .i64 0, .int .i64 0, .int .i64 (x : Nat), .int .i64 (q : Nat), .slice a13 q k13, .int .i64 16, .int .i64 0, .int .i64 0, .int .i64 0, .int .i64 2, .int .i64 (x : Nat), .int .i64 (q : Nat), .slice a12 q k12, .int .i64 23, .int .i64 2, .int .i64 (x : Nat), .int .i64 (c1 : Nat), .int .i64 2, .int .i64 (y : Nat), .int .i64 (q : Nat), .slice a12 q k12, .int .i64 22, .int .i64 2, .int .i64 (x : Nat), .int .i64 1, .int .i64 2, .int .i64 (x : Nat), .int .i64 1, .slice (some ⟨wc.heap.size, 0, none⟩) 2 2] 48)
              rw [hW0]
              simpa using this
            have hTOT : Below w.heap.size w W0 := bel_then (bel_then HBW.out hb5) hbW
            have h12 := ownsRow_below (ownsRow_below HOO.out hb5) hbW
            have h13 := ownsRow_below (ownsRow_below HOO'.out hb5) hbW
            have h2 : W0.ownsRow w.heap.size 3 1 (.slice (some ⟨wc.heap.size, 0, none⟩) 2 2) 2 ([((y : Nat) : Int), ((c1 : Nat) : Int)].flatMap encI) := by
              rw [hW0]; exact (new_two wc y c1 _ (by have := (bel_then HBW.out hb5).size; omega)).alloc _
            have ITEMS := hideF (items W0 w.heap.size g5 (wc.heap.size + 1) x y c1 q pl ws bs a12 a13 _ k12 k13 2 HPL.out hxl hyl hc1g hc1l hm1 hm hwl hbl hL0 hWg h12 h13 h2)
            have HTOT := hideF hTOT
            obtain ⟨gW, hgW⟩ : ∃ gW, gW = wc.heap.size + 1 := ⟨_, rfl⟩
            rw [← hgW] at ITEMS ⊢
            clear hW0 hbW hL0 hWg hTOT h12 h13 h2 hgW hh5 hb5 hg5 HBW HOO HOO' hc1 hwl hbl
            go_loopw [21] (fun i wv => ∃ k : Nat, k ≤ 5 ∧ i = .int .i64 (k : Nat) ∧ Below W0.heap.size W0 wv) (fun i _ => 5 - (intOf i).toNat)
            case atStart => exact ⟨0, Nat.zero_le _, rfl, Below.refl _ _⟩
            case round =>
              obtain ⟨k, hk5, rfl, hbk⟩ := hrel
              by_cases hk : k < 5
              · obtain ⟨s, f, tb, fr, ct, io, tz, mm, nn, vs, ai, ki, l1, l2, cL, d0, d1, d2, d3, d4, d5, d6, d7, how, hvl, hnl, p1, p2, p3⟩ := (ITEMS.out k hk).below hbk
                have HP1 := hideF p1
                have HP2 := hideF p2
                have HP3 := hideF p3
                have HOW := hideF how
                have HVL := hideF hvl
                have hsz := shp_size p1
                have D := hideF (show _ ∧ _ ∧ _ ∧ _ ∧ _ ∧ _ ∧ _ ∧ _ from ⟨d0, d1, d2, d3, d4, d5, d6, d7⟩)
                clear p1 p2 p3 how hvl d0 d1 d2 d3 d4 d5 d6 d7
                go_wp2_with fail
                refine (shape_any s _).mono ?_
                rintro e w1 ⟨x', v1, k', rfl, hown1, hsh1, _, hb1⟩
                obtain ⟨hxy, hkl⟩ := hsh1.eq HP1.out
                subst hxy hkl
                have ho1 : w1.ownsRow wr.heap.size 3 1 v1 nn (vs.flatMap encI) := by rw [← HVL.out]; exact hown1
                obtain ⟨a1, k1, rfl, _⟩ := own_view ho1
                clear hsh1 hown1
                simp only [shV]
                obtain ⟨d0, d1, d2, d3, d4, d5, d6, d7⟩ := D.out
                have e0 := (hb1.cell (p := ⟨gW, k * 8, none⟩) l2).trans d0
                have e1 := (hb1.cell (p := ⟨gW, k * 8 + 1, none⟩) l2).trans d1
                have e2 := (hb1.cell (p := ⟨gW, k * 8 + 2, none⟩) l2).trans d2
                have e3 := (hb1.cell (p := ⟨gW, k * 8 + 3, none⟩) l2).trans d3
                have e4 := (hb1.cell (p := ⟨gW, k * 8 + 4, none⟩) l2).trans d4
                have e5 := (hb1.cell (p := ⟨gW, k * 8 + 5, none⟩) l2).trans d5
                have e6 := (hb1.cell (p := ⟨gW, k * 8 + 6, none⟩) l2).trans d6
                have e7 := (hb1.cell (p := ⟨gW, k * 8 + 7, none⟩) l2).trans d7
                have z1 : gW < w1.heap.size := Nat.lt_of_lt_of_le l2 hb1.size
                have cL1 := (hb1.cell (p := ⟨g5, k, none⟩) l1).trans cL
                have zL : g5 < w1.heap.size := Nat.lt_of_lt_of_le l1 hb1.size
                have HW1 := hideF (ownsRow_below HOW.out hb1)
                have HO1 := hideF ho1
                have HBK := hideF (hbk.trans (hb1.mono hbk.size))
                clear d0 d1 d2 d3 d4 d5 d6 d7 D ho1 hbk cL l1 l2 hb1
                go_wp2_with fail
                obtain ⟨X2, hX2⟩ : ∃ X2, X2 = (w1.alloc (.cells #[.int .i64 (f : Nat), .int .i64 (tb : Nat), .int .i64 (fr : Nat), .int .i64 (ct : Nat), .int .i64 (io : Nat), .int .i64 (tz : Nat), .int .i64 (mm : Nat), .slice a1 nn k1] 48)).alloc (.cells #[.int .i64 (f : Nat), .int .i64 (tb : Nat), .int .i64 (fr : Nat), .int .i64 (ct : Nat), .int .i64 (io : Nat), .int .i64 (tz : Nat), .int .i64 (mm : Nat), .slice ai nn ki] 48) := ⟨_, rfl⟩
                rw [← hX2]
                have hb2 : Below w1.heap.size w1 X2 := by rw [hX2]; exact bel_alloc2 (Below.refl _ _) _ _
                have x1 : X2.heap[w1.heap.size]? = some (.cells #[.int .i64 (f : Nat), .int .i64 (tb : Nat), .int .i64 (fr : Nat), .int .i64 (ct : Nat), .int .i64 (io : Nat), .int .i64 (tz : Nat), .int .i64 (mm : Nat), .slice a1 nn k1] 48 (0, 0)) := by
                  rw [hX2, heap_alloc_old (w1.alloc _) _ (r := w1.heap.size) (by simp)]; exact heap_alloc_new w1 _
                have x2 : X2.heap[w1.heap.size + 1]? = some (.cells #[.int .i64 (f : Nat), .int .i64 (tb : Nat), .int .i64 (fr : Nat), .int .i64 (ct : Nat), .int .i64 (io : Nat), .int .i64 (tz : Nat), .int .i64 (mm : Nat), .slice ai nn ki] 48 (0, 0)) := by
                  have := heap_alloc_new (w1.alloc (.cells #[.int .i64 (f : Nat), .int .i64 (tb : Nat), .int .i64 (fr : Nat), .int .i64 (ct : Nat), .int .i64 (io : Nat), .int .i64 (tz : Nat), .int .i64 (mm : Nat), .slice a1 nn k1] 48)) (.cells #[.int .i64 (f : Nat), .int .i64 (tb : Nat), .int .i64 (fr : Nat), .int .i64 (ct : Nat), .int .i64 (io : Nat), .int .i64 (tz : Nat), .int .i64 (mm : Nat), .slice ai nn ki] 48)
                  rw [hX2]
                  simpa using this
                have cL2 := (hb2.cell (p := ⟨g5, k, none⟩) zL).trans cL1
                have zL2 : g5 < X2.heap.size := Nat.lt_of_lt_of_le zL hb2.size
                have HO2 := hideF (ownsRow_below HO1.out hb2)
                have HW2 := hideF (ownsRow_below HW1.out hb2)
                have HBK2 := hideF (HBK.out.trans (hb2.mono HBK.out.size))
                obtain ⟨fy, e0, e1, e2, e3, e4, e5, e6, e7⟩ := cells8 x1
                obtain ⟨fx, d0, d1, d2, d3, d4, d5, d6, d7⟩ := cells8 x2
                clear hX2 hb2 x1 x2 cL1 zL z1 HW1 HO1 HBK
                refine (same26 X2 _ _ _ _ vs (by rw [HVL.out]; exact HO2.out) (by rw [HVL.out]; exact HW2.out) (by rw [HVL.out]; omega)).mono ?_
                rintro e w2 ⟨rfl, n2, rfl⟩
                have hlim : ¬ 9223372036854775807 < s.size + 1 := by omega
                go_wp2_with fail
                obtain ⟨X3, hX3⟩ : ∃ X3, X3 = X2.drewN n2 := ⟨_, rfl⟩
                rw [← hX3]
                have cL3 : X3.cell? ⟨g5, k, none⟩ = some (.string s) := by rw [hX3, World.cell?_drewN]; exact cL2
                have zL3 : g5 < X3.heap.size := by rw [hX3, World.heap_drewN]; exact zL2
                have HBK3 : Hid (Below W0.heap.size W0 X3) := by rw [hX3]; exact below_drewN HBK2.out _
                clear hX3 e0 e1 e2 e3 e4 e5 e6 e7 d0 d1 d2 d3 d4 d5 d6 d7 fx fy HBK2 HO2 HW2 cL2 zL2
                refine (shape_bad _ X3 HP2.out).mono ?_
                rintro e w3 ⟨v3, rfl, a3, k3, rfl, hb3⟩
                have cL4 := (hb3.cell (p := ⟨g5, k, none⟩) zL3).trans cL3
                have zL4 : g5 < w3.heap.size := Nat.lt_of_lt_of_le zL3 hb3.size
                have HBK4 := hideF (HBK3.out.trans (hb3.mono HBK3.out.size))
                have ws1 : IntKind.i64.wrap ((s.size : Int) - 1) = (s.size : Int) - 1 := by rw [IntKind.wrap_i64]; omega
                have bs0 : 0 ≤ (s.size : Int) - 1 := by omega
                have bs3 : (1 : Int) ≤ s.size := by omega
                have bs1 : (s.size : Int) - 1 ≤ s.size := by omega
                have bs2 : ((s.size : Int) - 1).toNat = s.size - 1 := by omega
                clear cL3 zL3 hb3
                go_wp2_with fail
                obtain ⟨X4, hX4⟩ : ∃ X4, X4 = w3.alloc (.cells #[.int .i64 0, .int .i64 0, .int .i64 0, .int .i64 0, .int .i64 0, .int .i64 0, .int .i64 0, .slice a3 0 k3] 48) := ⟨_, rfl⟩
                rw [← hX4]
                have cL5 : X4.cell? ⟨g5, k, none⟩ = some (.string s) := by rw [hX4]; exact ((Below.refl w3.heap.size w3).alloc (Nat.le_refl _) _ |>.cell (p := ⟨g5, k, none⟩) zL4).trans cL4
                have HBK5 : Hid (Below W0.heap.size W0 X4) := by rw [hX4]; exact HBK4.out.trans ((bel_alloc (Below.refl _ _) _).mono HBK4.out.size)
                have zL5 : g5 < X4.heap.size := by rw [hX4]; simp; omega
                have ne1 : ¬ g5 = X4.heap.size := by omega
                have ne2 : ¬ X4.heap.size = g5 := by omega
                clear hX4 cL4 zL4 HBK4
                go_cut [29] from 282 to 296 (fun v W => v = .int .u8 3 ∧ Below W0.heap.size W0 W)
                case first =>
                  go_region_held3 (fun w' => w'.cell? ⟨g5, k, none⟩ = some (.string s)) (go_keep)
                    (first | (go_at_call 18; refine (shape_bad _ _ HP3.out).mono ?_; rintro e w5 ⟨v5, rfl, a5, k5, rfl, hb5⟩; obtain ⟨hc5, hf5⟩ := bcell hb5; have hz5 := hb5.size; have hg5 : g5 < w5.heap.size := (by simp at hz5; omega); have hs5 : w5.cell? ⟨g5, k, none⟩ = some (.string s) := (by rw [hc5 g5 k (by simp; omega)]; simp [*])))
                  all_goals
                    have hb6 : Below W0.heap.size W0 w5 := (by first | (with_reducible exact HBK5.out.drew.trans (hb5.mono HBK5.out.drew.size)) | (with_reducible exact (HBK5.out.drew.alloc HBK5.out.drew.size _).trans (hb5.mono (HBK5.out.drew.alloc HBK5.out.drew.size _).size)))
                    clear hb5 hc5 hf5 hz5 hg5 hs5
                    go_wp2
                    go_meet
                    case rel => first | (with_reducible exact ⟨rfl, hb6.alloc hb6.size _⟩) | (with_reducible exact ⟨rfl, bel8 hb6 HBK5.out.size _ _ _ _ _ _ _ _⟩)
                case rest =>
                  obtain ⟨rfl, hb6⟩ := hcut
                  clear cL5 ws1 bs0 bs1 bs2 bs3 zL5 ne1 ne2
                  go_wp2
                  go_roundw
                  case rel => exact ⟨k + 1, by omega, by go_num, hb6⟩
                  case measure => simp [intOf]; omega
              · go_wp2
                go_ret
                exact ⟨rfl, HTOT.out.trans (hbk.mono HTOT.out.size)⟩
end Go.Proofs.Ytcpldcojckhapaa
