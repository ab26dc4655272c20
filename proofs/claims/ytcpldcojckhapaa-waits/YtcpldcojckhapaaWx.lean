/-
  latchkeep.Waits is true for every input: the walk.
-/
import Derived.Test.YtcpldcojckhapaaWu
import Derived.Deep.RegionHeld3
namespace Go.Proofs.Ytcpldcojckhapaa
open Go.RowKit

theorem pick_nat (c : Int) (n : Nat) (h1 : -9223372036854775808 ≤ c) (h2 : c ≤ 9223372036854775807) (h3 : 0 < n) (h4 : n ≤ 65536) : ∃ x : Nat, x < n ∧ ∀ w : World, Calls Try.prog 24 #[.int .i64 c, .int .i64 (n : Nat)] w fun e w' => e = .returned (.int .i64 (x : Nat)) ∧ w' = w := by
  refine ⟨(pk c n).toNat, ?_, fun w => (pick_any c n w h1 h2 (by omega) (by omega)).mono fun e w' h => ?_⟩
  · have := pk_lt c n (by omega); have := pk_nonneg c n (by omega); omega
  · have := pk_nonneg c n (by omega)
    rw [Int.toNat_of_nonneg this]
    exact h
theorem FtT.bel {n B : Nat} {T : TypeId → Bool} {a w w' : World} (h : FtT B T w w') (hb : Below n a w) (h1 : n ≤ B) (h2 : n ≤ w.heap.size) : Below n a w' :=
  hb.trans ⟨h.os, h.tape, h.output, h.size, fun k hk => h.low k (by omega) (by omega)⟩
theorem own_ft {B C n : Nat} {v : Value} {xs : List Value} {w w' : World} (h : w.ownsRow C 75 4 v n xs) (hf : FtT B devT w w') : w'.ownsRow C 75 4 v n xs :=
  own_same h (fun g hg => by obtain ⟨cg, hcg⟩ := own_block h g hg; exact hf.keep g cg 75 hcg rfl)
theorem tell_two (y : Nat) : tellB 3 [y] = (⟨#[3, 2]⟩ : ByteArray) ++ twoB y := by
  apply ByteArray.ext
  apply Array.toList_inj.1
  simp [tellB, wordsB, bytesOf, wordsI, twoB]
  refine ⟨?_, ?_⟩ <;> congr 1 <;> omega
theorem wA_len (x y : Nat) : (wA x y).length = 4 := rfl
theorem wA_sends (x y : Nat) : sendsL (wA x y) = [streamB 2 9 (writeB x y), streamB 3 9 (tellB 3 [y])] := rfl
theorem wA_k0 (x y : Nat) : ((wA x y).flatMap encA)[0]? = some (.int .u8 0) := rfl
theorem wA_k1 (x y : Nat) : ((wA x y).flatMap encA)[4]? = some (.int .u8 1) := rfl
theorem wA_k2 (x y : Nat) : ((wA x y).flatMap encA)[8]? = some (.int .u8 2) := rfl
theorem wA_k3 (x y : Nat) : ((wA x y).flatMap encA)[12]? = some (.int .u8 2) := rfl
set_option maxRecDepth 100000 in
set_option maxHeartbeats 4000000 in
theorem waits_walk (a0 a1 : Int) (w : World) (h0 : -9223372036854775808 ≤ a0 ∧ a0 ≤ 9223372036854775807) (h1 : -9223372036854775808 ≤ a1 ∧ a1 ≤ 9223372036854775807) :
    Calls Try.prog 8 #[.int .i64 a0, .int .i64 a1] w fun e w' => e = .returned (.bool true) ∧ Below w.heap.size w w' := by
  obtain ⟨x, hx, hpx⟩ := pick_nat a0 5 h0.1 h0.2 (by omega) (by omega)
  obtain ⟨y, hy, hpy⟩ := pick_nat a1 65536 h1.1 h1.2 (by omega) (by omega)
  have HPX := hideF hpx
  have HPY := hideF hpy
  obtain ⟨W, hW⟩ : ∃ W, W = (w.alloc (.cells #[.int .i64 0, .int .i64 0] 3)).alloc (.cells #[.int .i64 0, .int .i64 0, .int .i64 10, .int .i64 0, .int .i64 0, .int .i64 5, .int .i64 9, .slice (some ⟨w.heap.size, 0, none⟩) 2 2, .int .i64 8] 65) := ⟨_, rfl⟩
  have hWb : Below w.heap.size w W := by rw [hW]; exact bel_alloc (bel_alloc (Below.refl _ _) _) _
  have hWg : W.heap[w.heap.size]? = some (.cells #[.int .i64 0, .int .i64 0] 3 (0, 0)) := by rw [hW, heap_alloc_old _ _ (by simp)]; exact heap_alloc_new w _
  have hWl : W.heap.size = w.heap.size + 2 := by rw [hW]; simp
  have HWb := hideF hWb
  have HWg := hideF hWg
  clear hpx hpy hWb hWg h0 h1
  go_enter Try.func8, Try.ntmps8
  go_wp2_with fail
  rw [← hW]
  clear hW
  have HWR : Hid (∀ V : World, Calls Try.prog 30 #[.int .i64 (5 + (x : Int)), .int .i64 (y : Nat)] V fun e w' => e = .returned (.string (writeB (5 + x) y)) ∧ Below V.heap.size V w') := fun V => by
    have := writeK_any (5 + x) y V (by omega) hy
    rwa [show ((5 + x : Nat) : Int) = 5 + (x : Int) by omega] at this
  have HWR2 : Hid (∀ V : World, Calls Try.prog 30 #[.int .i64 (IntKind.i64.wrap (5 + (x : Int))), .int .i64 (y : Nat)] V fun e w' => e = .returned (.string (writeB (5 + x) y)) ∧ Below V.heap.size V w') := fun V => by
    have := writeK_any (5 + x) y V (by omega) hy
    rwa [show ((5 + x : Nat) : Int) = IntKind.i64.wrap (5 + (x : Int)) by rw [IntKind.wrap_i64]; omega] at this
  have z1 : (twoB x).size = 2 := rfl
  have z2 : (twoB 1).size = 2 := rfl
  have z3 : (twoB y).size = 2 := rfl
  refine (opened_at 0 0 10 0 0 5 9 2 2 8 w.heap.size (fun _ => 0) W (by omega) (by omega) (by omega) (by omega) rfl (by omega) (by omega) (by omega) (by omega) (by omega) (by omega) (by omega) (by omega) (by omega) (fun j hj => by
    rw [cell_of_row _ _ _ _ _ _ HWg.out]
    rcases (show j = 0 ∨ j = 1 by omega) with rfl | rfl <;> rfl) (fun _ _ => by omega)).mono ?_
  rintro e w1 ⟨d, v1, rfl, hdev, hov1, hb1⟩
  obtain ⟨L, S, E, wv, hD⟩ := hdev
  obtain ⟨B, hB⟩ : ∃ B, B = W.heap.size := ⟨_, rfl⟩
  rw [← hB] at hD
  have hBw : w.heap.size ≤ B := by omega
  have HD1 : Hid (DevIn w1 d L S E wv (wD0 B)) := hD
  have HB1 := hideF (bel_then HWb.out hb1)
  have hs1 := HB1.out.size
  obtain ⟨av, cv, rfl, _⟩ := own_view hov1
  clear hD hb1 hov1 HWb HWg
  go_wp2_with fail
  refine (HPX.out _).mono ?_
  rintro e w2 ⟨rfl, rfl⟩
  go_wp2_with fail
  refine (HPY.out _).mono ?_
  rintro e w1 ⟨rfl, rfl⟩
  go_wp2_with fail
  refine (HWR.out _).mono ?_
  rintro e w2 ⟨rfl, hb2⟩
  have HD2 := hideF (HD1.out.belowQ hb2)
  have HB2 := hideF (bel_then HB1.out hb2)
  clear hb2 HD1 HB1 hs1
  go_wp2_with fail
  refine (stream_any 1 9 (writeB (5 + x) y) _ (by omega) (by omega) (by rw [writeB_size]; omega)).mono ?_
  rintro e w3 ⟨rfl, hb3⟩
  have HD3 := hideF (HD2.out.belowQ hb3)
  have HB3 := hideF (bel_then HB2.out hb3)
  have hs3 := HB3.out.size
  clear hb3 HD2 HB2
  go_wp2_with fail
  refine (wFeed1 B d L S E wv w3 x y hx hy HD3.out _ rfl).mono ?_
  rintro e w4 ⟨v4, wv4, rfl, hown4, hD4, hF4⟩
  obtain ⟨a4, c4, rfl, _⟩ := own_view hown4
  have HO1 := hideF hown4
  have HD4 := hideF hD4
  have HB4 := hideF (hF4.bel HB3.out hBw hs3)
  clear hown4 hD4 hF4 HD3 HB3 hs3
  go_wp2_with fail
  refine (writeK_any x y _ (by omega) hy).mono ?_
  rintro e w5 ⟨rfl, hb5⟩
  have HD5 := hideF (HD4.out.belowQ hb5)
  have HB5 := hideF (bel_then HB4.out hb5)
  have HO5 := hideF (ownsRow_below HO1.out hb5)
  clear hb5 HD4 HB4 HO1
  go_wp2_with fail
  refine (stream_any 2 9 (writeB x y) _ (by omega) (by omega) (by rw [writeB_size]; omega)).mono ?_
  rintro e w6 ⟨rfl, hb6⟩
  have HD6 := hideF (HD5.out.belowQ hb6)
  have HB6 := hideF (bel_then HB5.out hb6)
  have HO6 := hideF (ownsRow_below HO5.out hb6)
  have hs6 := HB6.out.size
  clear hb6 HD5 HB5 HO5
  go_wp2_with fail
  refine (wFeed2 B d L S E wv4 w6 x y hx hy HD6.out _ rfl).mono ?_
  rintro e w7 ⟨v7, wv7, rfl, hown7, hD7, hF7⟩
  obtain ⟨a7, c7, rfl, _⟩ := own_view hown7
  have HO7 := hideF (own_ft HO6.out hF7)
  have HP7 := hideF hown7
  have HD7 := hideF hD7
  have HB7 := hideF (hF7.bel HB6.out hBw hs6)
  clear hown7 hD7 hF7 HD6 HB6 hs6 HO6
  go_wp2_with fail
  refine (two_any x _ (by omega)).mono ?_
  rintro e w8 ⟨rfl, hb8⟩
  have HD8 := hideF (HD7.out.belowQ hb8)
  have HB8 := hideF (bel_then HB7.out hb8)
  have HO8 := hideF (ownsRow_below HO7.out hb8)
  have HP8 := hideF (ownsRow_below HP7.out hb8)
  clear hb8 HD7 HB7 HO7 HP7
  go_wp2_with fail
  refine (two_any 1 _ (by omega)).mono ?_
  rintro e w9 ⟨rfl, hb9⟩
  have HD9 := hideF (HD8.out.belowQ hb9)
  have HB9 := hideF (bel_then HB8.out hb9)
  have HO9 := hideF (ownsRow_below HO8.out hb9)
  have HP9 := hideF (ownsRow_below HP8.out hb9)
  clear hb9 HD8 HB8 HO8 HP8
  go_wp2_with fail
  refine (stream_any 3 9 (readB x) _ (by omega) (by omega) (by rw [readB_size]; omega)).mono ?_
  rintro e w10 ⟨rfl, hb10⟩
  have HD10 := hideF (HD9.out.belowQ hb10)
  have HB10 := hideF (bel_then HB9.out hb10)
  have HO10 := hideF (ownsRow_below HO9.out hb10)
  have HP10 := hideF (ownsRow_below HP9.out hb10)
  have hs10 := HB10.out.size
  clear hb10 HD9 HB9 HO9 HP9
  go_wp2_with fail
  refine (wFeed3 B d L S E wv7 w10 x y hx hy HD10.out _ rfl).mono ?_
  rintro e w11 ⟨v11, wv11, rfl, hown11, hD11, hF11⟩
  obtain ⟨a11, c11, rfl, _⟩ := own_view hown11
  have HO11 := hideF (own_ft HO10.out hF11)
  have HP11 := hideF (own_ft HP10.out hF11)
  have HQ11 := hideF hown11
  have HD11 := hideF hD11
  have HB11 := hideF (hF11.bel HB10.out hBw hs10)
  clear hown11 hD11 hF11 HD10 HB10 hs10 HO10 HP10
  go_wp2_with fail
  refine (sends_any [(2, 0, 0, streamB 1 9 (writeB (5 + x) y))] _ _ _ (by simp) HO11.out).mono ?_
  rintro e w12 ⟨u12, rfl, hu12, hb12⟩
  have hu12' : w12.ownsRow w11.heap.size 9 1 u12 1 [.string (streamB 1 9 (writeB (5 + x) y))] := hu12
  obtain ⟨a12, c12, rfl, hat12⟩ := own_view hu12'
  obtain ⟨g12, rfl, hg12, hc12⟩ := hat12 0 (by omega)
  have s0 : w12.cell? ⟨g12, 0, none⟩ = some (.string (streamB 1 9 (writeB (5 + x) y))) := by rw [hc12 0 (by omega)]; rfl
  have HD12 := hideF (HD11.out.belowQ hb12)
  have HB12 := hideF (bel_then HB11.out hb12)
  have HP12 := hideF (ownsRow_below HP11.out hb12)
  have HQ12 := hideF (ownsRow_below HQ11.out hb12)
  clear hb12 HD11 HB11 HO11 HP11 HQ11 hu12 hu12' hat12 hc12
  go_wp2_with fail
  go_region_held3 (fun w' => w'.cell? ⟨g12, 0, none⟩ = some (.string (streamB 1 9 (writeB (5 + x) y)))) (go_keep)
    (first
      | (go_at_call 30; refine (HWR2.out _).mono ?_; rintro e wa ⟨rfl, hba⟩; have sa : wa.cell? ⟨g12, 0, none⟩ = some (.string (streamB 1 9 (writeB (5 + x) y))) := ((bcell hba).1 g12 0 hg12).trans s0; have hga : g12 < wa.heap.size := Nat.lt_of_lt_of_le hg12 hba.size)
      | (go_at_call 23; refine (stream_any 1 9 (writeB (5 + x) y) _ (by omega) (by omega) (by rw [writeB_size]; omega)).mono ?_; rintro e wb ⟨rfl, hbb⟩; have sb : wb.cell? ⟨g12, 0, none⟩ = some (.string (streamB 1 9 (writeB (5 + x) y))) := ((bcell hbb).1 g12 0 hga).trans sa; have hgb : g12 < wb.heap.size := Nat.lt_of_lt_of_le hga hbb.size)
      | (go_at_call 31; have hq := hbc; refine (sends_any [] (.slice a11 0 c11) _ _ (by simp) (ownsRow_below (ownsRow_below (ownsRow_below (own_drew HQ12.out) hba) hbb) hbc)).mono ?_; rintro e we ⟨ue, rfl, hue, hbe⟩; obtain ⟨ae, ce, rfl, _⟩ := own_view hue; have se : we.cell? ⟨g12, 0, none⟩ = some (.string (streamB 1 9 (writeB (5 + x) y))) := ((bcell hbe).1 g12 0 hgc).trans sc)
      | (go_at_call 31; refine (sends_any [] (.slice a7 0 c7) _ _ (by simp) (ownsRow_below (ownsRow_below (own_drew HP12.out) hba) hbb)).mono ?_; rintro e wc ⟨uc, rfl, huc, hbc⟩; obtain ⟨ac, cc, rfl, _⟩ := own_view huc; have sc : wc.cell? ⟨g12, 0, none⟩ = some (.string (streamB 1 9 (writeB (5 + x) y))) := ((bcell hbc).1 g12 0 hgb).trans sb; have hgc : g12 < wc.heap.size := Nat.lt_of_lt_of_le hgb hbc.size))
  all_goals
    have hbE := bel_then (bel_then (bel_then (below_then_drew1 hba) hbb) hbc) hbe
    have HD13 := hideF (HD12.out.belowQ hbE)
    have HB13 := hideF (bel_then HB12.out hbE)
    have hs13 := HB13.out.size
    clear hba hbb hbc hbe hbE sa sb sc se s0 hga hgb hgc hg12 huc hue hq HD12 HB12 HP12 HQ12
    go_wp2_with fail
    refine (wFlush B d L S E wv11 we x y hx hy HD13.out).mono ?_
    rintro e w14 ⟨v14, rfl, hown14, hD14, hF14⟩
    obtain ⟨a14, c14, rfl, hat14⟩ := own_view hown14
    obtain ⟨g14, rfl, hg14, hc14⟩ := hat14 0 (by omega)
    have k0 : w14.cell? ⟨g14, 0, none⟩ = some (.int .u8 0) := by rw [hc14 0 (by omega)]; exact wA_k0 x y
    have k1 : w14.cell? ⟨g14, 4, none⟩ = some (.int .u8 1) := by rw [hc14 4 (by omega)]; exact wA_k1 x y
    have k2 : w14.cell? ⟨g14, 8, none⟩ = some (.int .u8 2) := by rw [hc14 8 (by omega)]; exact wA_k2 x y
    have k3 : w14.cell? ⟨g14, 12, none⟩ = some (.int .u8 2) := by rw [hc14 12 (by omega)]; exact wA_k3 x y
    have HK : Hid (w14.cell? ⟨g14, 0, none⟩ = some (.int .u8 0) ∧ w14.cell? ⟨g14, 4, none⟩ = some (.int .u8 1) ∧ w14.cell? ⟨g14, 8, none⟩ = some (.int .u8 2) ∧ w14.cell? ⟨g14, 12, none⟩ = some (.int .u8 2)) := ⟨k0, k1, k2, k3⟩
    have HO14 := hideF hown14
    have HD14 := hideF hD14
    have HB14 := hideF (hF14.bel HB13.out hBw hs13)
    clear hown14 hD14 hF14 HD13 HB13 hs13 hat14 hc14 k0 k1 k2 k3
    go_wp2_with fail
    refine (sends_any (wA x y) _ _ _ (by rw [wA_len]; omega) (by rw [wA_len]; exact HO14.out)).mono ?_
    rintro e w15 ⟨u15, rfl, hu15, hb15⟩
    rw [wA_sends] at hu15
    have hu15' : w15.ownsRow w14.heap.size 9 1 u15 2 [.string (streamB 2 9 (writeB x y)), .string (streamB 3 9 (tellB 3 [y]))] := hu15
    obtain ⟨a15, c15, rfl, hat15⟩ := own_view hu15'
    obtain ⟨g15, rfl, hg15, hc15⟩ := hat15 0 (by omega)
    have s0 : w15.cell? ⟨g15, 0, none⟩ = some (.string (streamB 2 9 (writeB x y))) := by rw [hc15 0 (by omega)]; rfl
    have s1 : w15.cell? ⟨g15, 1, none⟩ = some (.string (streamB 3 9 ((⟨#[3, 2]⟩ : ByteArray) ++ twoB y))) := by rw [hc15 1 (by omega), ← tell_two]; rfl
    have HD15 := hideF (HD14.out.belowQ hb15)
    have HB15 := hideF (bel_then HB14.out hb15)
    have HK15 : Hid (w15.cell? ⟨g14, 0, none⟩ = some (.int .u8 0) ∧ w15.cell? ⟨g14, 4, none⟩ = some (.int .u8 1) ∧ w15.cell? ⟨g14, 8, none⟩ = some (.int .u8 2) ∧ w15.cell? ⟨g14, 12, none⟩ = some (.int .u8 2)) := by
      have b := (bcell hb15).1
      exact ⟨(b g14 _ hg14).trans HK.out.1, (b g14 _ hg14).trans HK.out.2.1, (b g14 _ hg14).trans HK.out.2.2.1, (b g14 _ hg14).trans HK.out.2.2.2⟩
    have hg14' : g14 < w15.heap.size := Nat.lt_of_lt_of_le hg14 hb15.size
    clear hb15 HD14 HB14 HO14 hu15 hu15' hat15 hc15 HK hg14
    go_wp2_with fail
    go_region_held3 (fun w' => w'.cell? ⟨g15, 0, none⟩ = some (.string (streamB 2 9 (writeB x y))) ∧ w'.cell? ⟨g15, 1, none⟩ = some (.string (streamB 3 9 ((⟨#[3, 2]⟩ : ByteArray) ++ twoB y)))) (go_keep)
      (first
        | (go_at_call 30; refine (writeK_any x y _ (by omega) hy).mono ?_; rintro e wa ⟨rfl, hba⟩; have sa : wa.cell? ⟨g15, 0, none⟩ = some (.string (streamB 2 9 (writeB x y))) := ((bcell hba).1 g15 0 hg15).trans s0; have ta : wa.cell? ⟨g15, 1, none⟩ = some (.string (streamB 3 9 ((⟨#[3, 2]⟩ : ByteArray) ++ twoB y))) := ((bcell hba).1 g15 1 hg15).trans s1; have hga : g15 < wa.heap.size := Nat.lt_of_lt_of_le hg15 hba.size)
        | (go_at_call 23; have hq := hbc; refine (stream_any 3 9 ((⟨#[3, 2]⟩ : ByteArray) ++ twoB y) _ (by omega) (by omega) (by rw [ByteArray.size_append]; show 2 + 2 ≤ 253; omega)).mono ?_; rintro e we2 ⟨rfl, hbe⟩; have se : we2.cell? ⟨g15, 0, none⟩ = some (.string (streamB 2 9 (writeB x y))) := ((bcell hbe).1 g15 0 hgc).trans sc; have te : we2.cell? ⟨g15, 1, none⟩ = some (.string (streamB 3 9 ((⟨#[3, 2]⟩ : ByteArray) ++ twoB y))) := ((bcell hbe).1 g15 1 hgc).trans tc)
        | (go_at_call 23; refine (stream_any 2 9 (writeB x y) _ (by omega) (by omega) (by rw [writeB_size]; omega)).mono ?_; rintro e wb ⟨rfl, hbb⟩; have sb : wb.cell? ⟨g15, 0, none⟩ = some (.string (streamB 2 9 (writeB x y))) := ((bcell hbb).1 g15 0 hga).trans sa; have tb : wb.cell? ⟨g15, 1, none⟩ = some (.string (streamB 3 9 ((⟨#[3, 2]⟩ : ByteArray) ++ twoB y))) := ((bcell hbb).1 g15 1 hga).trans ta; have hgb : g15 < wb.heap.size := Nat.lt_of_lt_of_le hga hbb.size)
        | (go_at_call 26; refine (two_any y _ hy).mono ?_; rintro e wc ⟨rfl, hbc⟩; have sc : wc.cell? ⟨g15, 0, none⟩ = some (.string (streamB 2 9 (writeB x y))) := ((bcell hbc).1 g15 0 hgb).trans sb; have tc : wc.cell? ⟨g15, 1, none⟩ = some (.string (streamB 3 9 ((⟨#[3, 2]⟩ : ByteArray) ++ twoB y))) := ((bcell hbc).1 g15 1 hgb).trans tb; have hgc : g15 < wc.heap.size := Nat.lt_of_lt_of_le hgb hbc.size))
    all_goals
      have hbE := bel_then (bel_then (bel_then (below_then_drew1 hba) hbb) hbc) hbe
      have HD16 := hideF (HD15.out.belowQ hbE)
      have HB16 := hideF (bel_then HB15.out hbE)
      have hs16 := HB16.out.size
      have HK16 : Hid (we2.cell? ⟨g14, 0, none⟩ = some (.int .u8 0) ∧ we2.cell? ⟨g14, 4, none⟩ = some (.int .u8 1) ∧ we2.cell? ⟨g14, 8, none⟩ = some (.int .u8 2) ∧ we2.cell? ⟨g14, 12, none⟩ = some (.int .u8 2)) := by
        have b := (bcell hbE).1
        exact ⟨(b g14 _ hg14').trans HK15.out.1, (b g14 _ hg14').trans HK15.out.2.1, (b g14 _ hg14').trans HK15.out.2.2.1, (b g14 _ hg14').trans HK15.out.2.2.2⟩
      clear hba hbb hbc hbe hbE sa sb sc se ta tb tc te s0 s1 hga hgb hgc hg15 hq HD15 HB15 HK15 hg14'
      go_wp2_with fail
      go_loopw [20, 19] (fun i sy wr => ((i = .int .i64 0 ∧ sy = .bool false) ∨ (i = .int .i64 1 ∧ sy = .bool false) ∨ (i = .int .i64 2 ∧ sy = .bool true) ∨ (i = .int .i64 3 ∧ sy = .bool true) ∨ (i = .int .i64 4 ∧ sy = .bool true)) ∧ wr = we2) (fun i _ _ => 4 - (intOf i).toNat)
      case atStart => exact ⟨.inl ⟨rfl, rfl⟩, rfl⟩
      case round =>
        obtain ⟨hcase, rfl⟩ := hrel
        rcases hcase with ⟨rfl, rfl⟩ | ⟨rfl, rfl⟩ | ⟨rfl, rfl⟩ | ⟨rfl, rfl⟩ | ⟨rfl, rfl⟩
        · have kk := HK16.out.1
          clear HK16
          go_wp2_with fail
          go_roundw
          case rel => refine ⟨.inr (.inl ⟨rfl, rfl⟩), ?_⟩; first | rfl | trivial
          case measure => simp [intOf]
        · have kk := HK16.out.2.1
          clear HK16
          go_wp2_with fail
          go_roundw
          case rel => refine ⟨.inr (.inr (.inl ⟨rfl, rfl⟩)), ?_⟩; first | rfl | trivial
          case measure => simp [intOf]
        · have kk := HK16.out.2.2.1
          clear HK16
          go_wp2_with fail
          go_roundw
          case rel => refine ⟨.inr (.inr (.inr (.inl ⟨rfl, rfl⟩))), ?_⟩; first | rfl | trivial
          case measure => simp [intOf]
        · have kk := HK16.out.2.2.2
          clear HK16
          go_wp2_with fail
          go_roundw
          case rel => refine ⟨.inr (.inr (.inr (.inr ⟨rfl, rfl⟩))), ?_⟩; first | rfl | trivial
          case measure => simp [intOf]
        · clear HK16
          go_wp2_with fail
          refine (two_any x _ (by omega)).mono ?_
          rintro e w17 ⟨rfl, hb17⟩
          have HD17 := hideF (HD16.out.belowQ hb17)
          have HB17 := hideF (bel_then HB16.out hb17)
          clear hb17 HD16 HB16 hs16
          go_wp2_with fail
          refine (two_any 1 _ (by omega)).mono ?_
          rintro e w18 ⟨rfl, hb18⟩
          have HD18 := hideF (HD17.out.belowQ hb18)
          have HB18 := hideF (bel_then HB17.out hb18)
          clear hb18 HD17 HB17
          go_wp2_with fail
          refine (stream_any 4 9 (readB x) _ (by omega) (by omega) (by rw [readB_size]; omega)).mono ?_
          rintro e w19 ⟨rfl, hb19⟩
          have HD19 := hideF (HD18.out.belowQ hb19)
          have HB19 := hideF (bel_then HB18.out hb19)
          have hs19 := HB19.out.size
          clear hb19 HD18 HB18
          go_wp2_with fail
          refine (wFeed4 B d L S E (.slice none 0 0) w19 x y hx hy HD19.out _ rfl).mono ?_
          rintro e w20 ⟨v20, wv20, rfl, hown20, hD20, hF20⟩
          obtain ⟨a20, c20, rfl, _⟩ := own_view hown20
          have HO20 := hideF hown20
          have HB20 := hideF (hF20.bel HB19.out hBw hs19)
          clear hown20 hD20 hF20 HD19 HB19 hs19
          go_wp2_with fail
          refine (sends_any [(2, 0, 1, streamB 4 9 (tellB 3 [y]))] _ _ _ (by simp) HO20.out).mono ?_
          rintro e w21 ⟨u21, rfl, hu21, hb21⟩
          have hu21' : w21.ownsRow w20.heap.size 9 1 u21 1 [.string (streamB 4 9 (tellB 3 [y]))] := hu21
          obtain ⟨a21, c21, rfl, hat21⟩ := own_view hu21'
          obtain ⟨g21, rfl, hg21, hc21⟩ := hat21 0 (by omega)
          have s0 : w21.cell? ⟨g21, 0, none⟩ = some (.string (streamB 4 9 ((⟨#[3, 2]⟩ : ByteArray) ++ twoB y))) := by rw [hc21 0 (by omega), ← tell_two]; rfl
          have HB21 := hideF (bel_then HB20.out hb21)
          clear hb21 HB20 HO20 hu21 hu21' hat21 hc21
          go_wp2_with fail
          go_region_held3 (fun w' => w'.cell? ⟨g21, 0, none⟩ = some (.string (streamB 4 9 ((⟨#[3, 2]⟩ : ByteArray) ++ twoB y)))) (go_keep)
            (first
              | (go_at_call 26; refine (two_any y _ hy).mono ?_; rintro e wa ⟨rfl, hba⟩; have sa : wa.cell? ⟨g21, 0, none⟩ = some (.string (streamB 4 9 ((⟨#[3, 2]⟩ : ByteArray) ++ twoB y))) := ((bcell hba).1 g21 0 hg21).trans s0; have hga : g21 < wa.heap.size := Nat.lt_of_lt_of_le hg21 hba.size)
              | (go_at_call 23; refine (stream_any 4 9 ((⟨#[3, 2]⟩ : ByteArray) ++ twoB y) _ (by omega) (by omega) (by rw [ByteArray.size_append]; show 2 + 2 ≤ 253; omega)).mono ?_; rintro e wb ⟨rfl, hbb⟩; have sb : wb.cell? ⟨g21, 0, none⟩ = some (.string (streamB 4 9 ((⟨#[3, 2]⟩ : ByteArray) ++ twoB y))) := ((bcell hbb).1 g21 0 hga).trans sa))
          all_goals
            have HBZ := hideF (bel_then (bel_then HB21.out (below_then_drew1 hba)) hbb)
            clear hba hbb sa sb s0 hga hg21 HB21
            go_wp2
            go_ret
            exact ⟨rfl, HBZ.out⟩
end Go.Proofs.Ytcpldcojckhapaa
