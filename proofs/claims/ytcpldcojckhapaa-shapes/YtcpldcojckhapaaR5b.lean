/-
  Package latchref's Shape, some functions: what it answers.
-/
import Derived.Test.YtcpldcojckhapaaR2b
namespace Go.Proofs.Ytcpldcojckhapaa
open Go.RowKit

set_option maxRecDepth 100000 in
set_option maxHeartbeats 4000000 in
theorem rshape_23 (s : ByteArray) (w : World) (h0 : 0 < s.size) (h1 : s.size ≤ 253) (hf : Pl.byt s 0 = 23) :
    Calls Try.prog 19 #[.string s] w fun e w' => ShapeIs w w' e s := by
  have gb := Pl.get_byt s
  have HF := hideF hf
  by_cases h5 : 10 ≤ s.size
  · have b9 := Pl.byt_lt s 9
    have l9 : 9 < s.size := by omega
    go_enter Try.func19, Try.ntmps19
    go_wp2_with fail
    refine (rword_any s 1 1 _ rfl (by omega) (by omega)).mono ?_
    rintro e w1 ⟨rfl, n1, hw1⟩
    have st1 : RefSt w w1 #[.int .i64 23, .int .i64 2, .int .i64 0, .int .i64 0, .int .i64 0, .int .i64 0, .int .i64 0, .slice none 0 0] := by rw [hw1]; exact (RefSt.start w _ _ _ _ _ _ _ _).drew _
    clear hw1
    obtain ⟨fz, e0, e1, e2, e3, e4, e5, e6, e7⟩ := cells8 st1.b2
    go_wp2_with fail
    refine (rword_any s 3 3 _ rfl (by omega) (by omega)).mono ?_
    rintro e w2 ⟨rfl, n2, hw2⟩
    have st2 : RefSt w w2 #[.int .i64 23, .int .i64 2, .int .i64 (Pl.wd s 1 : Nat), .int .i64 0, .int .i64 0, .int .i64 0, .int .i64 0, .slice none 0 0] := by rw [hw2]; exact (st1.set 2 _).drew _
    clear hw2 fz e0 e1 e2 e3 e4 e5 e6 e7
    clear st1
    obtain ⟨fz, e0, e1, e2, e3, e4, e5, e6, e7⟩ := cells8 st2.b2
    obtain ⟨K, hK⟩ : ∃ K, K = Pl.wd s 3 := ⟨_, rfl⟩
    rw [← hK]
    have HK := hideF hK
    have hKl : K < 65536 := by rw [hK]; exact Pl.wd_lt s 3
    clear hK
    go_wp2_with fail
    refine (rword_any s 5 5 _ rfl (by omega) (by omega)).mono ?_
    rintro e w3 ⟨rfl, n3, hw3⟩
    have st3 : RefSt w w3 #[.int .i64 23, .int .i64 2, .int .i64 (Pl.wd s 1 : Nat), .int .i64 (K : Nat), .int .i64 2, .int .i64 0, .int .i64 0, .slice none 0 0] := by rw [hw3]; exact ((st2.set 3 _).set 4 _).drew _
    clear hw3 fz e0 e1 e2 e3 e4 e5 e6 e7
    clear st2
    obtain ⟨fz, e0, e1, e2, e3, e4, e5, e6, e7⟩ := cells8 st3.b2
    go_wp2_with fail
    refine (rword_any s 7 7 _ rfl (by omega) (by omega)).mono ?_
    rintro e w4 ⟨rfl, n4, hw4⟩
    have st4 : RefSt w w4 #[.int .i64 23, .int .i64 2, .int .i64 (Pl.wd s 1 : Nat), .int .i64 (K : Nat), .int .i64 2, .int .i64 (Pl.wd s 5 : Nat), .int .i64 0, .slice none 0 0] := by rw [hw4]; exact (st3.set 5 _).drew _
    clear hw4 fz e0 e1 e2 e3 e4 e5 e6 e7
    clear st3
    obtain ⟨fz, e0, e1, e2, e3, e4, e5, e6, e7⟩ := cells8 st4.b2
    obtain ⟨M, hM⟩ : ∃ M, M = Pl.wd s 7 := ⟨_, rfl⟩
    rw [← hM]
    have HM := hideF hM
    have hMl : M < 65536 := by rw [hM]; exact Pl.wd_lt s 7
    clear hM
    obtain ⟨C, hC⟩ : ∃ C, C = Pl.byt s 9 := ⟨_, rfl⟩
    rw [← hC] at b9
    have gb9 : (s[9]'l9).toNat = C := by rw [hC]; exact gb 9 l9
    have HC := hideF hC
    have HGB := hideF gb
    clear hC gb
    go_wp2_with fail
    refine (in_any K 1 125 _).mono ?_
    rintro e w5 ⟨rfl, rfl⟩
    by_cases hi : 1 ≤ K ∧ K ≤ 125
    · rw [decide_eq_true hi]
      have HH := hideF hi
      clear hi
      go_wp2_with fail
      refine (in_any M 1 121 _).mono ?_
      rintro e w5 ⟨rfl, rfl⟩
      by_cases hj : 1 ≤ M ∧ M ≤ 121
      · rw [decide_eq_true hj]
        by_cases hc : C = 2 * M
        · have tc : ((C : Int) == 2 * (M : Int)) = true := by rw [beq_iff_eq]; omega
          by_cases hn : s.size = 10 + C
          · have tn : ((s.size : Int) == 10 + (C : Int)) = true := by rw [beq_iff_eq]; omega
            have HN := hideF hn
            have HCC := hideF hc
            have HJ := hideF hj
            have hq : (s.size - 10) / 2 = M := by omega
            have HQ := hideF hq
            clear hn hc hj hq
            go_wp2_with fail
            obtain ⟨Y5, hY5⟩ : ∃ Y, Y = (w4.setCell ⟨w.heap.size + 1 + 1, 6, none⟩ (.int .i64 (M : Nat))) := ⟨_, rfl⟩
            have sy5 : RefSt w Y5 #[.int .i64 23, .int .i64 2, .int .i64 (Pl.wd s 1 : Nat), .int .i64 (K : Nat), .int .i64 2, .int .i64 (Pl.wd s 5 : Nat), .int .i64 (M : Nat), .slice none 0 0] := by rw [hY5]; exact (st4.set 6 _)
            rw [← hY5]
            clear hY5
            refine (rwords_any s 10 M Y5 HQ.out (by omega) (by omega)).mono ?_
            rintro e w5 ⟨v, rfl, hown, hb5⟩
            have how := own_base hown sy5.hs
            obtain ⟨ad, c, rfl, _⟩ := own_view how
            have st5 := sy5.then hb5
            clear hb5 hown sy5 st4 fz e0 e1 e2 e3 e4 e5 e6 e7
            obtain ⟨fz, e0, e1, e2, e3, e4, e5, e6, e7⟩ := cells8 st5.b2
            obtain ⟨fa, c0, c1, c2, c3, c4, c5, c6, c7⟩ := cells8 st5.b0
            obtain ⟨fb, d0, d1, d2, d3, d4, d5, d6, d7⟩ := cells8 st5.b1
            have HS := hideF st5
            have HO := hideF how
            clear how
            clear st5
            go_wp2
            refine bodyPost_ret (v := .tuple #[.agg #[.int .i64 23, .int .i64 2, .int .i64 (Pl.wd s 1 : Nat), .int .i64 (K : Nat), .int .i64 2, .int .i64 (Pl.wd s 5 : Nat), .int .i64 (M : Nat), .slice ad M c], .int .u8 0]) (by simp [results, Try.results19, go_sem, c0, c1, c2, c3, c4, c5, c6, c7]) rfl
              ⟨⟨23, 2, Pl.wd s 1, K, 2, Pl.wd s 5, M, Pl.wordsL s 10 M⟩, .slice ad M c, 0, rfl, by rw [Pl.wordsL_len]; exact own_base (own8x (own1 HO.out (by omega) _) (by omega) _ _ _ _ _ _ _ _) (by omega), Pl.shpIs23 h0 h1 HF.out (.inl ⟨⟨h5, by rw [← HK.out]; exact HH.out.1, by rw [← HK.out]; exact HH.out.2, by rw [← HM.out]; exact HJ.out.1, by rw [← HM.out]; exact HJ.out.2, by rw [← HM.out, ← HC.out]; exact HCC.out, by rw [← HC.out]; exact HN.out⟩, by rw [HK.out, HM.out], rfl⟩), by rw [Pl.wordsL_len]; have := HJ.out; omega, bel8 ((HS.out.hb).setCell (p := ⟨w.heap.size + 1 + 1, 7, none⟩) (by simp; omega) _) (Nat.le_refl _) _ _ _ _ _ _ _ _⟩
          · have tn : ((s.size : Int) == 10 + (C : Int)) = false := by rw [beq_eq_false_iff_ne]; omega
            have HN := hideF hn
            clear hn hc
            go_wp2_with fail
            obtain ⟨Y5, hY5⟩ : ∃ Y, Y = (w4.setCell ⟨w.heap.size + 1 + 1, 6, none⟩ (.int .i64 (M : Nat))) := ⟨_, rfl⟩
            have sy5 : RefSt w Y5 #[.int .i64 23, .int .i64 2, .int .i64 (Pl.wd s 1 : Nat), .int .i64 (K : Nat), .int .i64 2, .int .i64 (Pl.wd s 5 : Nat), .int .i64 (M : Nat), .slice none 0 0] := by rw [hY5]; exact (st4.set 6 _)
            rw [← hY5]
            clear hY5
            refine (rwords_any s 10 ((s.size - 10) / 2) Y5 rfl (by omega) (by omega)).mono ?_
            rintro e w5 ⟨v, rfl, hown, hb5⟩
            have how := own_base hown sy5.hs
            obtain ⟨ad, c, rfl, _⟩ := own_view how
            have st5 := sy5.then hb5
            clear hb5 hown sy5 st4 fz e0 e1 e2 e3 e4 e5 e6 e7
            obtain ⟨fz, e0, e1, e2, e3, e4, e5, e6, e7⟩ := cells8 st5.b2
            obtain ⟨fa, c0, c1, c2, c3, c4, c5, c6, c7⟩ := cells8 st5.b0
            obtain ⟨fb, d0, d1, d2, d3, d4, d5, d6, d7⟩ := cells8 st5.b1
            have HS := hideF st5
            clear st5
            go_wp2
            refine bodyPost_ret (v := .tuple #[.agg #[.int .i64 0, .int .i64 0, .int .i64 0, .int .i64 0, .int .i64 0, .int .i64 0, .int .i64 0, .slice none 0 0], .int .u8 3]) (by simp [results, Try.results19, go_sem, c0, c1, c2, c3, c4, c5, c6, c7]) rfl
              ⟨Pl.noShp, .slice none 0 0, 3, rfl, World.ownsRow_nil _ _ _ _, Pl.shpIs23 h0 h1 HF.out (.inr ⟨fun h => HN.out (by rw [HC.out]; exact h.2.2.2.2.2.2), rfl, rfl⟩), by simp [Pl.noShp], bel8 ((HS.out.hb).setCell (p := ⟨w.heap.size + 1 + 1, 7, none⟩) (by simp; omega) _) (Nat.le_refl _) _ _ _ _ _ _ _ _⟩
        · have tc : ((C : Int) == 2 * (M : Int)) = false := by rw [beq_eq_false_iff_ne]; omega
          have HCC := hideF hc
          clear hc
          go_wp2_with fail
          obtain ⟨Y5, hY5⟩ : ∃ Y, Y = (w4.setCell ⟨w.heap.size + 1 + 1, 6, none⟩ (.int .i64 (M : Nat))) := ⟨_, rfl⟩
          have sy5 : RefSt w Y5 #[.int .i64 23, .int .i64 2, .int .i64 (Pl.wd s 1 : Nat), .int .i64 (K : Nat), .int .i64 2, .int .i64 (Pl.wd s 5 : Nat), .int .i64 (M : Nat), .slice none 0 0] := by rw [hY5]; exact (st4.set 6 _)
          rw [← hY5]
          clear hY5
          refine (rwords_any s 10 ((s.size - 10) / 2) Y5 rfl (by omega) (by omega)).mono ?_
          rintro e w5 ⟨v, rfl, hown, hb5⟩
          have how := own_base hown sy5.hs
          obtain ⟨ad, c, rfl, _⟩ := own_view how
          have st5 := sy5.then hb5
          clear hb5 hown sy5 st4 fz e0 e1 e2 e3 e4 e5 e6 e7
          obtain ⟨fz, e0, e1, e2, e3, e4, e5, e6, e7⟩ := cells8 st5.b2
          obtain ⟨fa, c0, c1, c2, c3, c4, c5, c6, c7⟩ := cells8 st5.b0
          obtain ⟨fb, d0, d1, d2, d3, d4, d5, d6, d7⟩ := cells8 st5.b1
          have HS := hideF st5
          clear st5
          go_wp2
          refine bodyPost_ret (v := .tuple #[.agg #[.int .i64 0, .int .i64 0, .int .i64 0, .int .i64 0, .int .i64 0, .int .i64 0, .int .i64 0, .slice none 0 0], .int .u8 3]) (by simp [results, Try.results19, go_sem, c0, c1, c2, c3, c4, c5, c6, c7]) rfl
            ⟨Pl.noShp, .slice none 0 0, 3, rfl, World.ownsRow_nil _ _ _ _, Pl.shpIs23 h0 h1 HF.out (.inr ⟨fun h => HCC.out (by rw [HC.out, HM.out]; exact h.2.2.2.2.2.1), rfl, rfl⟩), by simp [Pl.noShp], bel8 ((HS.out.hb).setCell (p := ⟨w.heap.size + 1 + 1, 7, none⟩) (by simp; omega) _) (Nat.le_refl _) _ _ _ _ _ _ _ _⟩
      · rw [decide_eq_false hj]
        have HJ := hideF hj
        clear hj
        go_wp2_with fail
        obtain ⟨Y5, hY5⟩ : ∃ Y, Y = (w4.setCell ⟨w.heap.size + 1 + 1, 6, none⟩ (.int .i64 (M : Nat))) := ⟨_, rfl⟩
        have sy5 : RefSt w Y5 #[.int .i64 23, .int .i64 2, .int .i64 (Pl.wd s 1 : Nat), .int .i64 (K : Nat), .int .i64 2, .int .i64 (Pl.wd s 5 : Nat), .int .i64 (M : Nat), .slice none 0 0] := by rw [hY5]; exact (st4.set 6 _)
        rw [← hY5]
        clear hY5
        refine (rwords_any s 10 ((s.size - 10) / 2) Y5 rfl (by omega) (by omega)).mono ?_
        rintro e w5 ⟨v, rfl, hown, hb5⟩
        have how := own_base hown sy5.hs
        obtain ⟨ad, c, rfl, _⟩ := own_view how
        have st5 := sy5.then hb5
        clear hb5 hown sy5 st4 fz e0 e1 e2 e3 e4 e5 e6 e7
        obtain ⟨fz, e0, e1, e2, e3, e4, e5, e6, e7⟩ := cells8 st5.b2
        obtain ⟨fa, c0, c1, c2, c3, c4, c5, c6, c7⟩ := cells8 st5.b0
        obtain ⟨fb, d0, d1, d2, d3, d4, d5, d6, d7⟩ := cells8 st5.b1
        have HS := hideF st5
        clear st5
        go_wp2
        refine bodyPost_ret (v := .tuple #[.agg #[.int .i64 0, .int .i64 0, .int .i64 0, .int .i64 0, .int .i64 0, .int .i64 0, .int .i64 0, .slice none 0 0], .int .u8 3]) (by simp [results, Try.results19, go_sem, c0, c1, c2, c3, c4, c5, c6, c7]) rfl
          ⟨Pl.noShp, .slice none 0 0, 3, rfl, World.ownsRow_nil _ _ _ _, Pl.shpIs23 h0 h1 HF.out (.inr ⟨fun h => HJ.out (by rw [HM.out]; exact ⟨h.2.2.2.1, h.2.2.2.2.1⟩), rfl, rfl⟩), by simp [Pl.noShp], bel8 ((HS.out.hb).setCell (p := ⟨w.heap.size + 1 + 1, 7, none⟩) (by simp; omega) _) (Nat.le_refl _) _ _ _ _ _ _ _ _⟩
    · rw [decide_eq_false hi]
      have HH := hideF hi
      clear hi
      go_wp2_with fail
      obtain ⟨Y5, hY5⟩ : ∃ Y, Y = (w4.setCell ⟨w.heap.size + 1 + 1, 6, none⟩ (.int .i64 (M : Nat))) := ⟨_, rfl⟩
      have sy5 : RefSt w Y5 #[.int .i64 23, .int .i64 2, .int .i64 (Pl.wd s 1 : Nat), .int .i64 (K : Nat), .int .i64 2, .int .i64 (Pl.wd s 5 : Nat), .int .i64 (M : Nat), .slice none 0 0] := by rw [hY5]; exact (st4.set 6 _)
      rw [← hY5]
      clear hY5
      refine (rwords_any s 10 ((s.size - 10) / 2) Y5 rfl (by omega) (by omega)).mono ?_
      rintro e w5 ⟨v, rfl, hown, hb5⟩
      have how := own_base hown sy5.hs
      obtain ⟨ad, c, rfl, _⟩ := own_view how
      have st5 := sy5.then hb5
      clear hb5 hown sy5 st4 fz e0 e1 e2 e3 e4 e5 e6 e7
      obtain ⟨fz, e0, e1, e2, e3, e4, e5, e6, e7⟩ := cells8 st5.b2
      obtain ⟨fa, c0, c1, c2, c3, c4, c5, c6, c7⟩ := cells8 st5.b0
      obtain ⟨fb, d0, d1, d2, d3, d4, d5, d6, d7⟩ := cells8 st5.b1
      have HS := hideF st5
      clear st5
      go_wp2
      refine bodyPost_ret (v := .tuple #[.agg #[.int .i64 0, .int .i64 0, .int .i64 0, .int .i64 0, .int .i64 0, .int .i64 0, .int .i64 0, .slice none 0 0], .int .u8 3]) (by simp [results, Try.results19, go_sem, c0, c1, c2, c3, c4, c5, c6, c7]) rfl
        ⟨Pl.noShp, .slice none 0 0, 3, rfl, World.ownsRow_nil _ _ _ _, Pl.shpIs23 h0 h1 HF.out (.inr ⟨fun h => HH.out (by rw [HK.out]; exact ⟨h.2.1, h.2.2.1⟩), rfl, rfl⟩), by simp [Pl.noShp], bel8 ((HS.out.hb).setCell (p := ⟨w.heap.size + 1 + 1, 7, none⟩) (by simp; omega) _) (Nat.le_refl _) _ _ _ _ _ _ _ _⟩
  · go_enter Try.func19, Try.ntmps19
    go_wp2
    refine bodyPost_ret (v := .tuple #[.agg #[.int .i64 0, .int .i64 0, .int .i64 0, .int .i64 0, .int .i64 0, .int .i64 0, .int .i64 0, .slice none 0 0], .int .u8 3]) (by simp [results, Try.results19, go_sem]) rfl
      ⟨Pl.noShp, .slice none 0 0, 3, rfl, World.ownsRow_nil _ _ _ _, Pl.shpIs23 h0 h1 HF.out (.inr ⟨fun h => h5 h.1, rfl, rfl⟩), by simp [Pl.noShp], (bel_alloc (bel_alloc (bel_alloc (Below.refl _ _) _) _) _)⟩

end Go.Proofs.Ytcpldcojckhapaa
