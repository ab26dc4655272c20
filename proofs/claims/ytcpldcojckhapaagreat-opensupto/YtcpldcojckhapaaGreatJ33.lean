/-
  
-/
import Derived.Test.YtcpldcojckhapaaGreatJ32
import Derived.Test.YtcpldcojckhapaaGreatJ31
set_option maxRecDepth 100000
namespace Go.Proofs.YtcpldcojckhapaaGreat
open Go.RowKit
set_option maxRecDepth 100000 in
set_option maxHeartbeats 4000000 in
theorem rshape_16 (s : ByteArray) (w : World) (h0 : 0 < s.size) (h1 : s.size <= 253) (hf : Pl.byt s 0 = 16) :
    Calls Tryz.prog 132 #[.string s] w fun e w' => ShapeIs w w' e s := by
  have gb := Pl.get_byt s
  have HF := hideF hf
  by_cases h5 : 6 <= s.size
  . have b5 := Pl.byt_lt s 5
    have l5 : 5 < s.size := by omega
    go_enter Tryz.func132, Tryz.ntmps132
    go_wp2_with fail
    refine (rword_any s 1 1 _ rfl (by omega) (by omega)).mono ?_
    rintro e w1 ⟨rfl, n1, hw1⟩
    have st1 : RefSt w w1 #[.int .i64 16, .int .i64 0, .int .i64 0, .int .i64 0, .int .i64 0, .int .i64 0, .int .i64 0, .slice none 0 0] := by rw [hw1]; exact (RefSt.start w _ _ _ _ _ _ _ _).drew _
    clear hw1
    obtain ⟨fz, e0, e1, e2, e3, e4, e5, e6, e7⟩ := cells8 st1.b2
    go_wp2_with fail
    refine (rword_any s 3 3 _ rfl (by omega) (by omega)).mono ?_
    rintro e w2 ⟨rfl, n2, hw2⟩
    have st2 : RefSt w w2 #[.int .i64 16, .int .i64 0, .int .i64 0, .int .i64 0, .int .i64 0, .int .i64 (Pl.wd s 1 : Nat), .int .i64 0, .slice none 0 0] := by rw [hw2]; exact (st1.set 5 _).drew _
    clear hw2 fz e0 e1 e2 e3 e4 e5 e6 e7
    clear st1
    obtain ⟨fz, e0, e1, e2, e3, e4, e5, e6, e7⟩ := cells8 st2.b2
    obtain ⟨K, hK⟩ : ∃ K, K = Pl.wd s 3 := ⟨_, rfl⟩
    rw [<- hK]
    have HK := hideF hK
    have hKl : K < 65536 := by rw [hK]; exact Pl.wd_lt s 3
    clear hK
    obtain ⟨C, hC⟩ : ∃ C, C = Pl.byt s 5 := ⟨_, rfl⟩
    rw [<- hC] at b5
    have gb5 : (s[5]'l5).toNat = C := by rw [hC]; exact gb 5 l5
    have HC := hideF hC
    have HGB := hideF gb
    clear hC gb
    go_wp2_with fail
    refine (in_any K 1 123 _).mono ?_
    rintro e w3 ⟨rfl, rfl⟩
    by_cases hi : 1 <= K /\ K <= 123
    . rw [decide_eq_true hi]
      by_cases hc : C = 2 * K
      . have tc : ((C : Int) == 2 * (K : Int)) = true := by rw [beq_iff_eq]; omega
        by_cases hn : s.size = 6 + C
        . have tn : ((s.size : Int) == 6 + (C : Int)) = true := by rw [beq_iff_eq]; omega
          have HN := hideF hn
          have HCC := hideF hc
          go_wp2_with fail
          obtain ⟨Y3, hY3⟩ : ∃ Y, Y = ((w2.setCell ⟨w.heap.size + 1 + 1, 6, none⟩ (.int .i64 (K : Nat))).setCell ⟨w.heap.size + 1 + 1, 4, none⟩ (.int .i64 2)) := ⟨_, rfl⟩
          have sy3 : RefSt w Y3 #[.int .i64 16, .int .i64 0, .int .i64 0, .int .i64 0, .int .i64 2, .int .i64 (Pl.wd s 1 : Nat), .int .i64 (K : Nat), .slice none 0 0] := by rw [hY3]; exact ((st2.set 6 _).set 4 _)
          rw [<- hY3]
          clear hY3
          refine (rwords_any s 6 K Y3 (by omega) (by omega) (by omega)).mono ?_
          rintro e w3 ⟨v, rfl, hown, hb3⟩
          have how := own_base hown sy3.hs
          obtain ⟨ad, c, rfl, _⟩ := own_view how
          have st3 := sy3.then hb3
          clear hb3 hown sy3 st2 fz e0 e1 e2 e3 e4 e5 e6 e7
          obtain ⟨fz, e0, e1, e2, e3, e4, e5, e6, e7⟩ := cells8 st3.b2
          have HH := hideF hi
          clear hi hc hn
          obtain ⟨fa, c0, c1, c2, c3, c4, c5, c6, c7⟩ := cells8 st3.b0
          obtain ⟨fb, d0, d1, d2, d3, d4, d5, d6, d7⟩ := cells8 st3.b1
          have HS := hideF st3
          have HO := hideF how
          clear how
          clear st3
          go_wp2
          refine bodyPost_ret (v := .tuple #[.agg #[.int .i64 16, .int .i64 0, .int .i64 0, .int .i64 0, .int .i64 2, .int .i64 (Pl.wd s 1 : Nat), .int .i64 (K : Nat), .slice ad K c], .int .u8 0]) (by simp [results, Tryz.results132, go_sem, c0, c1, c2, c3, c4, c5, c6, c7]) rfl
            ⟨⟨16, 0, 0, 0, 2, Pl.wd s 1, K, Pl.wordsL s 6 K⟩, .slice ad K c, 0, rfl, by rw [Pl.wordsL_len]; exact own_base (own8x (own1 HO.out (by omega) _) (by omega) _ _ _ _ _ _ _ _) (by omega), Pl.shpIs16 h0 h1 HF.out (.inl ⟨⟨h5, by rw [<- HK.out]; exact HH.out.1, by rw [<- HK.out]; exact HH.out.2, by rw [<- HK.out, <- HC.out]; exact HCC.out, by rw [<- HC.out]; exact HN.out⟩, by rw [HK.out], rfl⟩), by rw [Pl.wordsL_len]; have := HH.out; omega, bel8 ((HS.out.hb).setCell (p := ⟨w.heap.size + 1 + 1, 7, none⟩) (by simp; omega) _) (Nat.le_refl _) _ _ _ _ _ _ _ _⟩
        . have tn : ((s.size : Int) == 6 + (C : Int)) = false := by rw [beq_eq_false_iff_ne]; omega
          have HN := hideF hn
          clear hn
          obtain ⟨fa, c0, c1, c2, c3, c4, c5, c6, c7⟩ := cells8 st2.b0
          obtain ⟨fb, d0, d1, d2, d3, d4, d5, d6, d7⟩ := cells8 st2.b1
          have HS := hideF st2
          clear st2
          go_wp2
          refine bodyPost_ret (v := .tuple #[.agg #[.int .i64 0, .int .i64 0, .int .i64 0, .int .i64 0, .int .i64 0, .int .i64 0, .int .i64 0, .slice none 0 0], .int .u8 3]) (by simp [results, Tryz.results132, go_sem, c0, c1, c2, c3, c4, c5, c6, c7]) rfl
            ⟨Pl.noShp, .slice none 0 0, 3, rfl, World.ownsRow_nil _ _ _ _, Pl.shpIs16 h0 h1 HF.out (.inr ⟨fun h => HN.out (by rw [HC.out]; exact h.2.2.2.2), rfl, rfl⟩), by simp [Pl.noShp], bel8 ((HS.out.hb).setCell (p := ⟨w.heap.size + 1 + 1, 6, none⟩) (by simp; omega) _) (Nat.le_refl _) _ _ _ _ _ _ _ _⟩
      . have tc : ((C : Int) == 2 * (K : Int)) = false := by rw [beq_eq_false_iff_ne]; omega
        have HCC := hideF hc
        clear hc
        obtain ⟨fa, c0, c1, c2, c3, c4, c5, c6, c7⟩ := cells8 st2.b0
        obtain ⟨fb, d0, d1, d2, d3, d4, d5, d6, d7⟩ := cells8 st2.b1
        have HS := hideF st2
        clear st2
        go_wp2
        refine bodyPost_ret (v := .tuple #[.agg #[.int .i64 0, .int .i64 0, .int .i64 0, .int .i64 0, .int .i64 0, .int .i64 0, .int .i64 0, .slice none 0 0], .int .u8 3]) (by simp [results, Tryz.results132, go_sem, c0, c1, c2, c3, c4, c5, c6, c7]) rfl
          ⟨Pl.noShp, .slice none 0 0, 3, rfl, World.ownsRow_nil _ _ _ _, Pl.shpIs16 h0 h1 HF.out (.inr ⟨fun h => HCC.out (by rw [HC.out, HK.out]; exact h.2.2.2.1), rfl, rfl⟩), by simp [Pl.noShp], bel8 ((HS.out.hb).setCell (p := ⟨w.heap.size + 1 + 1, 6, none⟩) (by simp; omega) _) (Nat.le_refl _) _ _ _ _ _ _ _ _⟩
    . rw [decide_eq_false hi]
      have HH := hideF hi
      clear hi
      obtain ⟨fa, c0, c1, c2, c3, c4, c5, c6, c7⟩ := cells8 st2.b0
      obtain ⟨fb, d0, d1, d2, d3, d4, d5, d6, d7⟩ := cells8 st2.b1
      have HS := hideF st2
      clear st2
      go_wp2
      refine bodyPost_ret (v := .tuple #[.agg #[.int .i64 0, .int .i64 0, .int .i64 0, .int .i64 0, .int .i64 0, .int .i64 0, .int .i64 0, .slice none 0 0], .int .u8 3]) (by simp [results, Tryz.results132, go_sem, c0, c1, c2, c3, c4, c5, c6, c7]) rfl
        ⟨Pl.noShp, .slice none 0 0, 3, rfl, World.ownsRow_nil _ _ _ _, Pl.shpIs16 h0 h1 HF.out (.inr ⟨fun h => HH.out (by rw [HK.out]; exact ⟨h.2.1, h.2.2.1⟩), rfl, rfl⟩), by simp [Pl.noShp], bel8 ((HS.out.hb).setCell (p := ⟨w.heap.size + 1 + 1, 6, none⟩) (by simp; omega) _) (Nat.le_refl _) _ _ _ _ _ _ _ _⟩
  . go_enter Tryz.func132, Tryz.ntmps132
    go_wp2
    refine bodyPost_ret (v := .tuple #[.agg #[.int .i64 0, .int .i64 0, .int .i64 0, .int .i64 0, .int .i64 0, .int .i64 0, .int .i64 0, .slice none 0 0], .int .u8 3]) (by simp [results, Tryz.results132, go_sem]) rfl
      ⟨Pl.noShp, .slice none 0 0, 3, rfl, World.ownsRow_nil _ _ _ _, Pl.shpIs16 h0 h1 HF.out (.inr ⟨fun h => h5 h.1, rfl, rfl⟩), by simp [Pl.noShp], (bel_alloc (bel_alloc (bel_alloc (Below.refl _ _) _) _) _)⟩
end Go.Proofs.YtcpldcojckhapaaGreat

set_option maxRecDepth 100000
namespace Go.Proofs.YtcpldcojckhapaaGreat
open Go.RowKit
set_option maxRecDepth 100000 in
set_option maxHeartbeats 4000000 in
theorem rshape_22 (s : ByteArray) (w : World) (h0 : 0 < s.size) (h1 : s.size <= 253) (hf : Pl.byt s 0 = 22) :
    Calls Tryz.prog 132 #[.string s] w fun e w' => ShapeIs w w' e s := by
  have gb := Pl.get_byt s
  have HF := hideF hf
  by_cases h5 : s.size = 7
  . have t5 : ((s.size : Int) == 7) = true := by rw [beq_iff_eq]; omega
    have l5 : 7 <= s.size := by omega
    have l6 : s.size <= 7 := by omega
    have H5 := hideF h5
    clear h5
    go_enter Tryz.func132, Tryz.ntmps132
    go_wp2_with fail
    refine (rword_any s 1 1 _ rfl (by omega) (by omega)).mono ?_
    rintro e w1 ⟨rfl, n1, hw1⟩
    have st1 : RefSt w w1 #[.int .i64 22, .int .i64 2, .int .i64 0, .int .i64 0, .int .i64 0, .int .i64 0, .int .i64 0, .slice none 0 0] := by rw [hw1]; exact (RefSt.start w _ _ _ _ _ _ _ _).drew _
    clear hw1
    obtain ⟨fz, e0, e1, e2, e3, e4, e5, e6, e7⟩ := cells8 st1.b2
    go_wp2_with fail
    obtain ⟨Y2, hY2⟩ : ∃ Y, Y = (((((w1.setCell ⟨w.heap.size + 1 + 1, 2, none⟩ (.int .i64 (Pl.wd s 1 : Nat))).setCell ⟨w.heap.size + 1 + 1, 3, none⟩ (.int .i64 1)).setCell ⟨w.heap.size + 1 + 1, 4, none⟩ (.int .i64 2)).setCell ⟨w.heap.size + 1 + 1, 5, none⟩ (.int .i64 (Pl.wd s 1 : Nat))).setCell ⟨w.heap.size + 1 + 1, 6, none⟩ (.int .i64 1)) := ⟨_, rfl⟩
    have sy2 : RefSt w Y2 #[.int .i64 22, .int .i64 2, .int .i64 (Pl.wd s 1 : Nat), .int .i64 1, .int .i64 2, .int .i64 (Pl.wd s 1 : Nat), .int .i64 1, .slice none 0 0] := by rw [hY2]; exact (((((st1.set 2 _).set 3 _).set 4 _).set 5 _).set 6 _)
    rw [<- hY2]
    clear hY2
    refine (rwords_any s 3 2 Y2 (by omega) (by omega) (by omega)).mono ?_
    rintro e w2 ⟨v, rfl, hown, hb2⟩
    have how := own_base hown sy2.hs
    obtain ⟨ad, c, rfl, _⟩ := own_view how
    have st2 := sy2.then hb2
    clear hb2 hown sy2 st1 fz e0 e1 e2 e3 e4 e5 e6 e7
    obtain ⟨fz, e0, e1, e2, e3, e4, e5, e6, e7⟩ := cells8 st2.b2
    obtain ⟨fa, c0, c1, c2, c3, c4, c5, c6, c7⟩ := cells8 st2.b0
    obtain ⟨fb, d0, d1, d2, d3, d4, d5, d6, d7⟩ := cells8 st2.b1
    have HS := hideF st2
    have HO := hideF how
    clear how
    clear st2
    go_wp2
    refine bodyPost_ret (v := .tuple #[.agg #[.int .i64 22, .int .i64 2, .int .i64 (Pl.wd s 1 : Nat), .int .i64 1, .int .i64 2, .int .i64 (Pl.wd s 1 : Nat), .int .i64 1, .slice ad 2 c], .int .u8 0]) (by simp [results, Tryz.results132, go_sem, c0, c1, c2, c3, c4, c5, c6, c7]) rfl
      ⟨⟨22, 2, Pl.wd s 1, 1, 2, Pl.wd s 1, 1, Pl.wordsL s 3 2⟩, .slice ad 2 c, 0, rfl, by rw [Pl.wordsL_len]; exact own_base (own8x (own1 HO.out (by omega) _) (by omega) _ _ _ _ _ _ _ _) (by omega), Pl.shpIs22 h0 h1 HF.out (.inl ⟨H5.out, rfl, rfl⟩), by rw [Pl.wordsL_len]; omega, bel8 ((HS.out.hb).setCell (p := ⟨w.heap.size + 1 + 1, 7, none⟩) (by simp; omega) _) (Nat.le_refl _) _ _ _ _ _ _ _ _⟩
  . have t5 : ((s.size : Int) == 7) = false := by rw [beq_eq_false_iff_ne]; omega
    go_enter Tryz.func132, Tryz.ntmps132
    go_wp2
    refine bodyPost_ret (v := .tuple #[.agg #[.int .i64 0, .int .i64 0, .int .i64 0, .int .i64 0, .int .i64 0, .int .i64 0, .int .i64 0, .slice none 0 0], .int .u8 3]) (by simp [results, Tryz.results132, go_sem]) rfl
      ⟨Pl.noShp, .slice none 0 0, 3, rfl, World.ownsRow_nil _ _ _ _, Pl.shpIs22 h0 h1 HF.out (.inr ⟨h5, rfl, rfl⟩), by simp [Pl.noShp], (bel_alloc (bel_alloc (bel_alloc (Below.refl _ _) _) _) _)⟩
end Go.Proofs.YtcpldcojckhapaaGreat

set_option maxRecDepth 100000
namespace Go.Proofs.YtcpldcojckhapaaGreat
open Go.RowKit
set_option maxRecDepth 100000 in
set_option maxHeartbeats 4000000 in
theorem rshape_23 (s : ByteArray) (w : World) (h0 : 0 < s.size) (h1 : s.size <= 253) (hf : Pl.byt s 0 = 23) :
    Calls Tryz.prog 132 #[.string s] w fun e w' => ShapeIs w w' e s := by
  have gb := Pl.get_byt s
  have HF := hideF hf
  by_cases h5 : 10 <= s.size
  . have b9 := Pl.byt_lt s 9
    have l9 : 9 < s.size := by omega
    go_enter Tryz.func132, Tryz.ntmps132
    go_wp2_with fail
    refine (rword_any s 1 1 _ rfl (by omega) (by omega)).mono ?_
    rintro e w1 ⟨rfl, n1, hw1⟩
    have st1 : RefSt w w1 #[.int .i64 23, .int .i64 2, .int .i64 0, .int .i64 0, .int .i64 0, .int .i64 0, .int .i64 0, .slice none 0 0] := by rw [hw1]; exact (RefSt.start w _ _ _ _ _ _ _ _).drew _
    clear hw1
    obtain ⟨fz, e0, e1, e2, e3, e4, e5, e6, e7⟩ := cells8 st1.b2
    go_wp2_with fail
    refine (rword_any s 3 3 _ rfl (by omega) (by omega)).mono ?_
    rintro e w2 ⟨rfl, n2, hw2⟩
    have st2 : RefSt w w2 #[.int .i64 23, .int .i64 2, .int .i64 (Pl.wd s 1 : Nat), .int .i64 0, .int .i64 0, .int .i64 0, .int .i64 0, .slice none 0 0] := by rw [hw2]; exact (st1.set 2 _).drew _
    clear hw2 fz e0 e1 e2 e3 e4 e5 e6 e7
    clear st1
    obtain ⟨fz, e0, e1, e2, e3, e4, e5, e6, e7⟩ := cells8 st2.b2
    obtain ⟨K, hK⟩ : ∃ K, K = Pl.wd s 3 := ⟨_, rfl⟩
    rw [<- hK]
    have HK := hideF hK
    have hKl : K < 65536 := by rw [hK]; exact Pl.wd_lt s 3
    clear hK
    go_wp2_with fail
    refine (rword_any s 5 5 _ rfl (by omega) (by omega)).mono ?_
    rintro e w3 ⟨rfl, n3, hw3⟩
    have st3 : RefSt w w3 #[.int .i64 23, .int .i64 2, .int .i64 (Pl.wd s 1 : Nat), .int .i64 (K : Nat), .int .i64 2, .int .i64 0, .int .i64 0, .slice none 0 0] := by rw [hw3]; exact ((st2.set 3 _).set 4 _).drew _
    clear hw3 fz e0 e1 e2 e3 e4 e5 e6 e7
    clear st2
    obtain ⟨fz, e0, e1, e2, e3, e4, e5, e6, e7⟩ := cells8 st3.b2
    go_wp2_with fail
    refine (rword_any s 7 7 _ rfl (by omega) (by omega)).mono ?_
    rintro e w4 ⟨rfl, n4, hw4⟩
    have st4 : RefSt w w4 #[.int .i64 23, .int .i64 2, .int .i64 (Pl.wd s 1 : Nat), .int .i64 (K : Nat), .int .i64 2, .int .i64 (Pl.wd s 5 : Nat), .int .i64 0, .slice none 0 0] := by rw [hw4]; exact (st3.set 5 _).drew _
    clear hw4 fz e0 e1 e2 e3 e4 e5 e6 e7
    clear st3
    obtain ⟨fz, e0, e1, e2, e3, e4, e5, e6, e7⟩ := cells8 st4.b2
    obtain ⟨M, hM⟩ : ∃ M, M = Pl.wd s 7 := ⟨_, rfl⟩
    rw [<- hM]
    have HM := hideF hM
    have hMl : M < 65536 := by rw [hM]; exact Pl.wd_lt s 7
    clear hM
    obtain ⟨C, hC⟩ : ∃ C, C = Pl.byt s 9 := ⟨_, rfl⟩
    rw [<- hC] at b9
    have gb9 : (s[9]'l9).toNat = C := by rw [hC]; exact gb 9 l9
    have HC := hideF hC
    have HGB := hideF gb
    clear hC gb
    go_wp2_with fail
    refine (in_any K 1 125 _).mono ?_
    rintro e w5 ⟨rfl, rfl⟩
    by_cases hi : 1 <= K /\ K <= 125
    . rw [decide_eq_true hi]
      have HH := hideF hi
      clear hi
      go_wp2_with fail
      refine (in_any M 1 121 _).mono ?_
      rintro e w5 ⟨rfl, rfl⟩
      by_cases hj : 1 <= M /\ M <= 121
      . rw [decide_eq_true hj]
        by_cases hc : C = 2 * M
        . have tc : ((C : Int) == 2 * (M : Int)) = true := by rw [beq_iff_eq]; omega
          by_cases hn : s.size = 10 + C
          . have tn : ((s.size : Int) == 10 + (C : Int)) = true := by rw [beq_iff_eq]; omega
            have HN := hideF hn
            have HCC := hideF hc
            have HJ := hideF hj
            have hq : (s.size - 10) / 2 = M := by omega
            have HQ := hideF hq
            clear hn hc hj hq
            go_wp2_with fail
            obtain ⟨Y5, hY5⟩ : ∃ Y, Y = (w4.setCell ⟨w.heap.size + 1 + 1, 6, none⟩ (.int .i64 (M : Nat))) := ⟨_, rfl⟩
            have sy5 : RefSt w Y5 #[.int .i64 23, .int .i64 2, .int .i64 (Pl.wd s 1 : Nat), .int .i64 (K : Nat), .int .i64 2, .int .i64 (Pl.wd s 5 : Nat), .int .i64 (M : Nat), .slice none 0 0] := by rw [hY5]; exact (st4.set 6 _)
            rw [<- hY5]
            clear hY5
            refine (rwords_any s 10 M Y5 HQ.out (by omega) (by omega)).mono ?_
            rintro e w5 ⟨v, rfl, hown, hb5⟩
            have how := own_base hown sy5.hs
            obtain ⟨ad, c, rfl, _⟩ := own_view how
            have st5 := sy5.then hb5
            clear hb5 hown sy5 st4 fz e0 e1 e2 e3 e4 e5 e6 e7
            obtain ⟨fz, e0, e1, e2, e3, e4, e5, e6, e7⟩ := cells8 st5.b2
            obtain ⟨fa, c0, c1, c2, c3, c4, c5, c6, c7⟩ := cells8 st5.b0
            obtain ⟨fb, d0, d1, d2, d3, d4, d5, d6, d7⟩ := cells8 st5.b1
            have HS := hideF st5
            have HO := hideF how
            clear how
            clear st5
            go_wp2
            refine bodyPost_ret (v := .tuple #[.agg #[.int .i64 23, .int .i64 2, .int .i64 (Pl.wd s 1 : Nat), .int .i64 (K : Nat), .int .i64 2, .int .i64 (Pl.wd s 5 : Nat), .int .i64 (M : Nat), .slice ad M c], .int .u8 0]) (by simp [results, Tryz.results132, go_sem, c0, c1, c2, c3, c4, c5, c6, c7]) rfl
              ⟨⟨23, 2, Pl.wd s 1, K, 2, Pl.wd s 5, M, Pl.wordsL s 10 M⟩, .slice ad M c, 0, rfl, by rw [Pl.wordsL_len]; exact own_base (own8x (own1 HO.out (by omega) _) (by omega) _ _ _ _ _ _ _ _) (by omega), Pl.shpIs23 h0 h1 HF.out (.inl ⟨⟨h5, by rw [<- HK.out]; exact HH.out.1, by rw [<- HK.out]; exact HH.out.2, by rw [<- HM.out]; exact HJ.out.1, by rw [<- HM.out]; exact HJ.out.2, by rw [<- HM.out, <- HC.out]; exact HCC.out, by rw [<- HC.out]; exact HN.out⟩, by rw [HK.out, HM.out], rfl⟩), by rw [Pl.wordsL_len]; have := HJ.out; omega, bel8 ((HS.out.hb).setCell (p := ⟨w.heap.size + 1 + 1, 7, none⟩) (by simp; omega) _) (Nat.le_refl _) _ _ _ _ _ _ _ _⟩
          . have tn : ((s.size : Int) == 10 + (C : Int)) = false := by rw [beq_eq_false_iff_ne]; omega
            have HN := hideF hn
            clear hn hc
            go_wp2_with fail
            obtain ⟨Y5, hY5⟩ : ∃ Y, Y = (w4.setCell ⟨w.heap.size + 1 + 1, 6, none⟩ (.int .i64 (M : Nat))) := ⟨_, rfl⟩
            have sy5 : RefSt w Y5 #[.int .i64 23, .int .i64 2, .int .i64 (Pl.wd s 1 : Nat), .int .i64 (K : Nat), .int .i64 2, .int .i64 (Pl.wd s 5 : Nat), .int .i64 (M : Nat), .slice none 0 0] := by rw [hY5]; exact (st4.set 6 _)
            rw [<- hY5]
            clear hY5
            refine (rwords_any s 10 ((s.size - 10) / 2) Y5 rfl (by omega) (by omega)).mono ?_
            rintro e w5 ⟨v, rfl, hown, hb5⟩
            have how := own_base hown sy5.hs
            obtain ⟨ad, c, rfl, _⟩ := own_view how
            have st5 := sy5.then hb5
            clear hb5 hown sy5 st4 fz e0 e1 e2 e3 e4 e5 e6 e7
            obtain ⟨fz, e0, e1, e2, e3, e4, e5, e6, e7⟩ := cells8 st5.b2
            obtain ⟨fa, c0, c1, c2, c3, c4, c5, c6, c7⟩ := cells8 st5.b0
            obtain ⟨fb, d0, d1, d2, d3, d4, d5, d6, d7⟩ := cells8 st5.b1
            have HS := hideF st5
            clear st5
            go_wp2
            refine bodyPost_ret (v := .tuple #[.agg #[.int .i64 0, .int .i64 0, .int .i64 0, .int .i64 0, .int .i64 0, .int .i64 0, .int .i64 0, .slice none 0 0], .int .u8 3]) (by simp [results, Tryz.results132, go_sem, c0, c1, c2, c3, c4, c5, c6, c7]) rfl
              ⟨Pl.noShp, .slice none 0 0, 3, rfl, World.ownsRow_nil _ _ _ _, Pl.shpIs23 h0 h1 HF.out (.inr ⟨fun h => HN.out (by rw [HC.out]; exact h.2.2.2.2.2.2), rfl, rfl⟩), by simp [Pl.noShp], bel8 ((HS.out.hb).setCell (p := ⟨w.heap.size + 1 + 1, 7, none⟩) (by simp; omega) _) (Nat.le_refl _) _ _ _ _ _ _ _ _⟩
        . have tc : ((C : Int) == 2 * (M : Int)) = false := by rw [beq_eq_false_iff_ne]; omega
          have HCC := hideF hc
          clear hc
          go_wp2_with fail
          obtain ⟨Y5, hY5⟩ : ∃ Y, Y = (w4.setCell ⟨w.heap.size + 1 + 1, 6, none⟩ (.int .i64 (M : Nat))) := ⟨_, rfl⟩
          have sy5 : RefSt w Y5 #[.int .i64 23, .int .i64 2, .int .i64 (Pl.wd s 1 : Nat), .int .i64 (K : Nat), .int .i64 2, .int .i64 (Pl.wd s 5 : Nat), .int .i64 (M : Nat), .slice none 0 0] := by rw [hY5]; exact (st4.set 6 _)
          rw [<- hY5]
          clear hY5
          refine (rwords_any s 10 ((s.size - 10) / 2) Y5 rfl (by omega) (by omega)).mono ?_
          rintro e w5 ⟨v, rfl, hown, hb5⟩
          have how := own_base hown sy5.hs
          obtain ⟨ad, c, rfl, _⟩ := own_view how
          have st5 := sy5.then hb5
          clear hb5 hown sy5 st4 fz e0 e1 e2 e3 e4 e5 e6 e7
          obtain ⟨fz, e0, e1, e2, e3, e4, e5, e6, e7⟩ := cells8 st5.b2
          obtain ⟨fa, c0, c1, c2, c3, c4, c5, c6, c7⟩ := cells8 st5.b0
          obtain ⟨fb, d0, d1, d2, d3, d4, d5, d6, d7⟩ := cells8 st5.b1
          have HS := hideF st5
          clear st5
          go_wp2
          refine bodyPost_ret (v := .tuple #[.agg #[.int .i64 0, .int .i64 0, .int .i64 0, .int .i64 0, .int .i64 0, .int .i64 0, .int .i64 0, .slice none 0 0], .int .u8 3]) (by simp [results, Tryz.results132, go_sem, c0, c1, c2, c3, c4, c5, c6, c7]) rfl
            ⟨Pl.noShp, .slice none 0 0, 3, rfl, World.ownsRow_nil _ _ _ _, Pl.shpIs23 h0 h1 HF.out (.inr ⟨fun h => HCC.out (by rw [HC.out, HM.out]; exact h.2.2.2.2.2.1), rfl, rfl⟩), by simp [Pl.noShp], bel8 ((HS.out.hb).setCell (p := ⟨w.heap.size + 1 + 1, 7, none⟩) (by simp; omega) _) (Nat.le_refl _) _ _ _ _ _ _ _ _⟩
      . rw [decide_eq_false hj]
        have HJ := hideF hj
        clear hj
        go_wp2_with fail
        obtain ⟨Y5, hY5⟩ : ∃ Y, Y = (w4.setCell ⟨w.heap.size + 1 + 1, 6, none⟩ (.int .i64 (M : Nat))) := ⟨_, rfl⟩
        have sy5 : RefSt w Y5 #[.int .i64 23, .int .i64 2, .int .i64 (Pl.wd s 1 : Nat), .int .i64 (K : Nat), .int .i64 2, .int .i64 (Pl.wd s 5 : Nat), .int .i64 (M : Nat), .slice none 0 0] := by rw [hY5]; exact (st4.set 6 _)
        rw [<- hY5]
        clear hY5
        refine (rwords_any s 10 ((s.size - 10) / 2) Y5 rfl (by omega) (by omega)).mono ?_
        rintro e w5 ⟨v, rfl, hown, hb5⟩
        have how := own_base hown sy5.hs
        obtain ⟨ad, c, rfl, _⟩ := own_view how
        have st5 := sy5.then hb5
        clear hb5 hown sy5 st4 fz e0 e1 e2 e3 e4 e5 e6 e7
        obtain ⟨fz, e0, e1, e2, e3, e4, e5, e6, e7⟩ := cells8 st5.b2
        obtain ⟨fa, c0, c1, c2, c3, c4, c5, c6, c7⟩ := cells8 st5.b0
        obtain ⟨fb, d0, d1, d2, d3, d4, d5, d6, d7⟩ := cells8 st5.b1
        have HS := hideF st5
        clear st5
        go_wp2
        refine bodyPost_ret (v := .tuple #[.agg #[.int .i64 0, .int .i64 0, .int .i64 0, .int .i64 0, .int .i64 0, .int .i64 0, .int .i64 0, .slice none 0 0], .int .u8 3]) (by simp [results, Tryz.results132, go_sem, c0, c1, c2, c3, c4, c5, c6, c7]) rfl
          ⟨Pl.noShp, .slice none 0 0, 3, rfl, World.ownsRow_nil _ _ _ _, Pl.shpIs23 h0 h1 HF.out (.inr ⟨fun h => HJ.out (by rw [HM.out]; exact ⟨h.2.2.2.1, h.2.2.2.2.1⟩), rfl, rfl⟩), by simp [Pl.noShp], bel8 ((HS.out.hb).setCell (p := ⟨w.heap.size + 1 + 1, 7, none⟩) (by simp; omega) _) (Nat.le_refl _) _ _ _ _ _ _ _ _⟩
    . rw [decide_eq_false hi]
      have HH := hideF hi
      clear hi
      go_wp2_with fail
      obtain ⟨Y5, hY5⟩ : ∃ Y, Y = (w4.setCell ⟨w.heap.size + 1 + 1, 6, none⟩ (.int .i64 (M : Nat))) := ⟨_, rfl⟩
      have sy5 : RefSt w Y5 #[.int .i64 23, .int .i64 2, .int .i64 (Pl.wd s 1 : Nat), .int .i64 (K : Nat), .int .i64 2, .int .i64 (Pl.wd s 5 : Nat), .int .i64 (M : Nat), .slice none 0 0] := by rw [hY5]; exact (st4.set 6 _)
      rw [<- hY5]
      clear hY5
      refine (rwords_any s 10 ((s.size - 10) / 2) Y5 rfl (by omega) (by omega)).mono ?_
      rintro e w5 ⟨v, rfl, hown, hb5⟩
      have how := own_base hown sy5.hs
      obtain ⟨ad, c, rfl, _⟩ := own_view how
      have st5 := sy5.then hb5
      clear hb5 hown sy5 st4 fz e0 e1 e2 e3 e4 e5 e6 e7
      obtain ⟨fz, e0, e1, e2, e3, e4, e5, e6, e7⟩ := cells8 st5.b2
      obtain ⟨fa, c0, c1, c2, c3, c4, c5, c6, c7⟩ := cells8 st5.b0
      obtain ⟨fb, d0, d1, d2, d3, d4, d5, d6, d7⟩ := cells8 st5.b1
      have HS := hideF st5
      clear st5
      go_wp2
      refine bodyPost_ret (v := .tuple #[.agg #[.int .i64 0, .int .i64 0, .int .i64 0, .int .i64 0, .int .i64 0, .int .i64 0, .int .i64 0, .slice none 0 0], .int .u8 3]) (by simp [results, Tryz.results132, go_sem, c0, c1, c2, c3, c4, c5, c6, c7]) rfl
        ⟨Pl.noShp, .slice none 0 0, 3, rfl, World.ownsRow_nil _ _ _ _, Pl.shpIs23 h0 h1 HF.out (.inr ⟨fun h => HH.out (by rw [HK.out]; exact ⟨h.2.1, h.2.2.1⟩), rfl, rfl⟩), by simp [Pl.noShp], bel8 ((HS.out.hb).setCell (p := ⟨w.heap.size + 1 + 1, 7, none⟩) (by simp; omega) _) (Nat.le_refl _) _ _ _ _ _ _ _ _⟩
  . go_enter Tryz.func132, Tryz.ntmps132
    go_wp2
    refine bodyPost_ret (v := .tuple #[.agg #[.int .i64 0, .int .i64 0, .int .i64 0, .int .i64 0, .int .i64 0, .int .i64 0, .int .i64 0, .slice none 0 0], .int .u8 3]) (by simp [results, Tryz.results132, go_sem]) rfl
      ⟨Pl.noShp, .slice none 0 0, 3, rfl, World.ownsRow_nil _ _ _ _, Pl.shpIs23 h0 h1 HF.out (.inr ⟨fun h => h5 h.1, rfl, rfl⟩), by simp [Pl.noShp], (bel_alloc (bel_alloc (bel_alloc (Below.refl _ _) _) _) _)⟩
end Go.Proofs.YtcpldcojckhapaaGreat

set_option maxRecDepth 100000
namespace Go.Proofs.YtcpldcojckhapaaGreat
open Go.RowKit
theorem rshape_any (s : ByteArray) (w : World) : Calls Tryz.prog 132 #[.string s] w fun e w' => ShapeIs w w' e s := by
  by_cases h : s.size = 0 ∨ 253 < s.size
  . exact rshape_bad s w h
  . have h0' : 0 < s.size := by omega
    have h1' : s.size <= 253 := by omega
    by_cases f1 : Pl.byt s 0 = 1
    . exact rshape_1 s w h0' h1' f1
    by_cases f2 : Pl.byt s 0 = 2
    . exact rshape_2 s w h0' h1' f2
    by_cases f3 : Pl.byt s 0 = 3
    . exact rshape_3 s w h0' h1' f3
    by_cases f4 : Pl.byt s 0 = 4
    . exact rshape_4 s w h0' h1' f4
    by_cases f5 : Pl.byt s 0 = 5
    . exact rshape_5 s w h0' h1' f5
    by_cases f6 : Pl.byt s 0 = 6
    . exact rshape_6 s w h0' h1' f6
    by_cases f15 : Pl.byt s 0 = 15
    . exact rshape_15 s w h0' h1' f15
    by_cases f16 : Pl.byt s 0 = 16
    . exact rshape_16 s w h0' h1' f16
    by_cases f22 : Pl.byt s 0 = 22
    . exact rshape_22 s w h0' h1' f22
    by_cases f23 : Pl.byt s 0 = 23
    . exact rshape_23 s w h0' h1' f23
    exact rshape_none s w h0' h1' ⟨f1, f2, f3, f4, f5, f6, f15, f16, f22, f23⟩
end Go.Proofs.YtcpldcojckhapaaGreat

set_option maxRecDepth 100000
namespace Go.Proofs.YtcpldcojckhapaaGreat
open Go.RowKit
theorem box8 (w : World) (a0 a1 a2 a3 a4 a5 a6 a7 : Value) :
    ∃ V, V = w.alloc (.cells #[a0, a1, a2, a3, a4, a5, a6, a7] 144) /\ Below w.heap.size w V /\ V.heap.size = w.heap.size + 1 /\ V.heap[w.heap.size]? = some (.cells #[a0, a1, a2, a3, a4, a5, a6, a7] 144 (0, 0)) :=
  ⟨_, rfl, bel_alloc (Below.refl _ _) _, by simp, heap_alloc_new w _⟩
theorem shp_more {s : ByteArray} {x : Pl.Shp} (h : Pl.ShpIs s x 0) : (x.into = 0 ∨ x.into = 2) /\ (x.cnt = 0 -> x.frm = 0) /\ (x.many = 0 -> x.to = 0) := by
  rcases h with ⟨_, _, h⟩ | ⟨_, h⟩
  . omega
  . rcases h with ⟨_, ⟨ho, rfl, _⟩ | ⟨_, _, h⟩⟩ | ⟨_, ⟨ho, rfl, _⟩ | ⟨_, _, h⟩⟩ | ⟨_, ⟨ho, rfl, _⟩ | ⟨_, _, h⟩⟩ | ⟨_, ⟨ho, rfl, _⟩ | ⟨_, _, h⟩⟩ | ⟨_, ⟨ho, rfl, _⟩ | ⟨_, _, h⟩⟩ | ⟨_, ⟨ho, rfl, _⟩ | ⟨_, _, h⟩⟩ | ⟨_, ⟨ho, rfl, _⟩ | ⟨_, _, h⟩⟩ | ⟨_, ⟨ho, rfl, _⟩ | ⟨_, _, h⟩⟩ | ⟨_, ⟨ho, rfl, _⟩ | ⟨_, _, h⟩⟩ | ⟨_, ⟨ho, rfl, _⟩ | ⟨_, _, h⟩⟩ | ⟨_, _, h⟩
    all_goals try (exfalso; omega)
    all_goals refine ⟨?_, fun hh => ?_, fun hh => ?_⟩
    all_goals first
      | exact .inl rfl
      | exact .inr rfl
      | rfl
      | exact absurd hh (show ¬ ((1 : Nat) = 0) by decide)
      | exact absurd (show Pl.wd s 3 = 0 from hh) (by have := ho.2.1; omega)
      | exact absurd (show Pl.wd s 7 = 0 from hh) (by have := ho.2.2.2.1; omega)
theorem or128 (b : Nat) (h : b < 256) : b % 128 + 128 = b ||| 128 := by
  have : ∀ b : Fin 256, b.val % 128 + 128 = b.val ||| 128 := by decide +kernel
  exact this ⟨b, h⟩
set_option maxHeartbeats 4000000 in
theorem request_no (w : World) (B : Nat) (c : Nat -> Nat) (p : Rfm) (D : Dev) (left : List (List Int)) (safe : Nat) (ys : Nat -> ByteArray) (zs : Nat -> Bool) (s : ByteArray) (x : Pl.Shp) (k : Nat) (h : RefIn w B c p D left safe ys zs) (hsh : Pl.ShpIs s x k) (hs : 0 < s.size) (hx : doX D x k ≠ 0) :
    Calls Tryz.prog 106 #[.pointer (some ⟨p.r, 0, none⟩), .string s] w fun e w' => e = .returned (.tuple #[.string (excB s (doX D x k)), .bool false]) /\ Below w.heap.size w w' := by
  have gb := Pl.get_byt s
  have hs0 := Pl.byt_lt s 0
  have hsI : (0 : Int) < (s.size : Int) := by omega
  have c2 := conv_two
  have HR := hideF h
  have hrl := lt_of_block h.dev
  have e1 : Int.tmod ((Pl.byt s 0 : Nat) : Int) 128 = ((Pl.byt s 0 % 128 : Nat) : Int) := (Int.ofNat_tmod _ 128).symm
  have HOR := hideF (or128 (Pl.byt s 0) hs0)
  obtain ⟨b0, hb0⟩ : ∃ b0, b0 = Pl.byt s 0 % 128 := ⟨_, rfl⟩
  have hb1 : b0 < 128 := by omega
  rw [<- hb0] at e1 HOR
  have HB0 := hideF hb0
  have HEX : Hid (∀ k, ByteArray.mk #[UInt8.ofNat (b0 + 128), UInt8.ofNat k] = excB s k) := fun k => by
    unfold excB
    rw [HOR.out]
    congr 3
    have : (UInt8.ofNat (Pl.byt s 0) ||| 128) = UInt8.ofNat (Pl.byt s 0 ||| 128) := by
      rw [UInt8.ofNat_or]; rfl
    exact this.symm
  have HSH := hideF hsh
  have HX := hideF hx
  obtain ⟨K, hK⟩ : ∃ K, K = doX D x k := ⟨_, rfl⟩
  rw [<- hK]
  have HK := hideF hK
  clear h hsh hx hb0 hK
  go_enter Tryz.func106, Tryz.ntmps106
  go_wp2_with fail
  refine (rshape_any s w).mono ?_
  rintro e w1 ⟨x', v, k', rfl, hown, hsh', hlen, hbw1⟩
  obtain ⟨rfl, rfl⟩ := hsh'.eq HSH.out
  obtain ⟨a, cp, rfl, _⟩ := own_view hown
  unfold shV
  obtain ⟨V, hV, hVb, hVs, hVg⟩ := box8 w1 (.int .i64 (x'.fn : Nat)) (.int .i64 (x'.tab : Nat)) (.int .i64 (x'.frm : Nat)) (.int .i64 (x'.cnt : Nat)) (.int .i64 (x'.into : Nat)) (.int .i64 (x'.to : Nat)) (.int .i64 (x'.many : Nat)) (.slice a x'.vals.length cp)
  have HVB := hideF (bel_then hbw1 hVb)
  obtain ⟨y0, y1, y2, y3, y4, y5, y6, y7, y8⟩ := cells8 hVg
  have hs1 := hbw1.size
  have HRV := hideF (HR.out.below HVB.out)
  clear hown hsh' hVb hVg hbw1
  by_cases hk : k' = 0
  . subst hk
    obtain ⟨m1, m2, m3⟩ := shp_more HSH.out
    rcases shp_ok HSH.out with ⟨_, hok⟩ | ⟨hh, _⟩
    . have hdx : doX D x' 0 = 2 := by
        have := HX.out
        unfold doX at this ⊢
        rw [if_neg (by omega)] at this ⊢
        by_cases hb : hasB D x' = true
        . rw [if_pos hb] at this; exact absurd rfl this
        . rw [if_neg hb]
      have hno : ¬ (x'.frm + x'.cnt <= D.sz x'.tab) ∨ ¬ (x'.to + x'.many <= D.sz x'.into) := by
        by_cases hb : hasB D x' = true
        . have := HX.out
          unfold doX at this
          rw [if_neg (by omega), if_pos hb] at this
          exact absurd rfl this
        . unfold hasB at hb
          simp only [Bool.and_eq_true, decide_eq_true_eq] at hb
          omega
      have HK2 := hideF (HK.out.trans hdx)
      have l1 := hok.tab
      have l2 := hok.into
      have l3 := hok.frm
      have l4 := hok.cnt
      have l5 := hok.to'
      have l6 := hok.many
      have HM := hideF (And.intro m2 m3)
      clear m1 m2 m3 hdx hok
      by_cases q1 : x'.frm + x'.cnt <= D.sz x'.tab
      . have q2 : ¬ (x'.to + x'.many <= D.sz x'.into) := by omega
        have z6 : ((x'.many : Int) == 0) = false := by
          rw [beq_eq_false_iff_ne]
          intro e
          have := HM.out.2 (by omega)
          omega
        clear hno
        go_wp2_with fail
        rw [<- hV]
        clear hV
        refine (rhas_any V B c p D left safe ys zs x'.tab x'.frm x'.cnt HRV.out l1 l3 l4).mono ?_
        rintro e w2 ⟨rfl, rfl⟩
        rw [decide_eq_true q1]
        go_wp2_with fail
        refine (rhas_any w2 B c p D left safe ys zs x'.into x'.to x'.many HRV.out l2 l5 l6).mono ?_
        rintro e w3 ⟨rfl, rfl⟩
        rw [decide_eq_false q2]
        go_wp2
        go_ret2
        exact ⟨by rw [HK2.out, <- HEX.out]; rfl, bel_alloc HVB.out _⟩
      . have z3 : ((x'.cnt : Int) == 0) = false := by
          rw [beq_eq_false_iff_ne]
          intro e
          have := HM.out.1 (by omega)
          omega
        clear hno
        go_wp2_with fail
        rw [<- hV]
        clear hV
        refine (rhas_any V B c p D left safe ys zs x'.tab x'.frm x'.cnt HRV.out l1 l3 l4).mono ?_
        rintro e w2 ⟨rfl, rfl⟩
        rw [decide_eq_false q1]
        go_wp2_with fail
        refine (rhas_any w2 B c p D left safe ys zs x'.into x'.to x'.many HRV.out l2 l5 l6).mono ?_
        rintro e w3 ⟨rfl, rfl⟩
        by_cases q2 : x'.to + x'.many <= D.sz x'.into
        . rw [decide_eq_true q2]
          go_wp2
          go_ret2
          exact ⟨by rw [HK2.out, <- HEX.out]; rfl, bel_alloc HVB.out _⟩
        . have z6 : ((x'.many : Int) == 0) = false := by
            rw [beq_eq_false_iff_ne]
            intro e
            have := HM.out.2 (by omega)
            omega
          rw [decide_eq_false q2]
          go_wp2
          go_ret2
          exact ⟨by rw [HK2.out, <- HEX.out]; rfl, bel_alloc HVB.out _⟩
    . omega
  . have hdx : doX D x' k' = k' := by unfold doX; rw [if_pos hk]
    have HK2 := hideF (HK.out.trans hdx)
    have hk3 : k' = 1 ∨ k' = 3 := by
      rcases shp_ok HSH.out with ⟨h0, _⟩ | ⟨hh, _⟩
      . exact absurd h0 hk
      . exact hh
    clear hk hdx
    rcases hk3 with rfl | rfl
    all_goals
      go_wp2_with fail
      rw [<- hV]
      clear hV
      go_wp2
      go_ret2
      exact ⟨by rw [HK2.out, <- HEX.out]; rfl, bel_alloc HVB.out _⟩
end Go.Proofs.YtcpldcojckhapaaGreat
