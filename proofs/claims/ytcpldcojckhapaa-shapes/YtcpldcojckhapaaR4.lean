/-
  Package latchref's Shape, some functions: what it answers.
-/
import Derived.Test.YtcpldcojckhapaaR2b
namespace Go.Proofs.Ytcpldcojckhapaa
open Go.RowKit

set_option maxRecDepth 100000 in
set_option maxHeartbeats 4000000 in
theorem rshape_15 (s : ByteArray) (w : World) (h0 : 0 < s.size) (h1 : s.size ≤ 253) (hf : Pl.byt s 0 = 15) :
    Calls Try.prog 19 #[.string s] w fun e w' => ShapeIs w w' e s := by
  have gb := Pl.get_byt s
  have HF := hideF hf
  by_cases h5 : 6 ≤ s.size
  · have b5 := Pl.byt_lt s 5
    have l5 : 5 < s.size := by omega
    go_enter Try.func19, Try.ntmps19
    go_wp2_with fail
    refine (rword_any s 1 1 _ rfl (by omega) (by omega)).mono ?_
    rintro e w1 ⟨rfl, n1, hw1⟩
    have st1 : RefSt w w1 #[.int .i64 15, .int .i64 0, .int .i64 0, .int .i64 0, .int .i64 0, .int .i64 0, .int .i64 0, .slice none 0 0] := by rw [hw1]; exact (RefSt.start w _ _ _ _ _ _ _ _).drew _
    clear hw1
    obtain ⟨fz, e0, e1, e2, e3, e4, e5, e6, e7⟩ := cells8 st1.b2
    go_wp2_with fail
    refine (rword_any s 3 3 _ rfl (by omega) (by omega)).mono ?_
    rintro e w2 ⟨rfl, n2, hw2⟩
    have st2 : RefSt w w2 #[.int .i64 15, .int .i64 0, .int .i64 0, .int .i64 0, .int .i64 0, .int .i64 (Pl.wd s 1 : Nat), .int .i64 0, .slice none 0 0] := by rw [hw2]; exact (st1.set 5 _).drew _
    clear hw2 fz e0 e1 e2 e3 e4 e5 e6 e7
    clear st1
    obtain ⟨fz, e0, e1, e2, e3, e4, e5, e6, e7⟩ := cells8 st2.b2
    obtain ⟨K, hK⟩ : ∃ K, K = Pl.wd s 3 := ⟨_, rfl⟩
    rw [← hK]
    have HK := hideF hK
    have hKl : K < 65536 := by rw [hK]; exact Pl.wd_lt s 3
    clear hK
    obtain ⟨C, hC⟩ : ∃ C, C = Pl.byt s 5 := ⟨_, rfl⟩
    rw [← hC] at b5
    have gb5 : (s[5]'l5).toNat = C := by rw [hC]; exact gb 5 l5
    have HC := hideF hC
    have HGB := hideF gb
    clear hC gb
    go_wp2_with fail
    refine (in_any K 1 1968 _).mono ?_
    rintro e w3 ⟨rfl, rfl⟩
    by_cases hi : 1 ≤ K ∧ K ≤ 1968
    · rw [decide_eq_true hi]
      by_cases hc : C = (K + 7) / 8
      · have tc : ((C : Int) == ((K : Int) + 7) / 8) = true := by rw [beq_iff_eq]; omega
        by_cases hn : s.size = 6 + C
        · have tn : ((s.size : Int) == 6 + (C : Int)) = true := by rw [beq_iff_eq]; omega
          have HN := hideF hn
          have HCC := hideF hc
          go_wp2_with fail
          obtain ⟨Y3, hY3⟩ : ∃ Y, Y = (w2.setCell ⟨w.heap.size + 1 + 1, 6, none⟩ (.int .i64 (K : Nat))) := ⟨_, rfl⟩
          have sy3 : RefSt w Y3 #[.int .i64 15, .int .i64 0, .int .i64 0, .int .i64 0, .int .i64 0, .int .i64 (Pl.wd s 1 : Nat), .int .i64 (K : Nat), .slice none 0 0] := by rw [hY3]; exact (st2.set 6 _)
          rw [← hY3]
          clear hY3
          refine (rbits_any s 6 K Y3 (by omega) (by omega) (by omega)).mono ?_
          rintro e w3 ⟨v, rfl, hown, hb3⟩
          have how := own_base hown sy3.hs
          obtain ⟨ad, c, rfl, _⟩ := own_view how
          have st3 := sy3.then hb3
          clear hb3 hown sy3 st2 fz e0 e1 e2 e3 e4 e5 e6 e7
          obtain ⟨fz, e0, e1, e2, e3, e4, e5, e6, e7⟩ := cells8 st3.b2
          have HH := hideF hi
          clear hi hc hn
          obtain ⟨fa, c0, c1, c2, c3, c4, c5, c6, c7⟩ := cells8 st3.b0
          obtain ⟨fb, d0, d1, d2, d3, d4, d5, d6, d7⟩ := cells8 st3.b1
          have HS := hideF st3
          have HO := hideF how
          clear how
          clear st3
          go_wp2
          refine bodyPost_ret (v := .tuple #[.agg #[.int .i64 15, .int .i64 0, .int .i64 0, .int .i64 0, .int .i64 0, .int .i64 (Pl.wd s 1 : Nat), .int .i64 (K : Nat), .slice ad K c], .int .u8 0]) (by simp [results, Try.results19, go_sem, c0, c1, c2, c3, c4, c5, c6, c7]) rfl
            ⟨⟨15, 0, 0, 0, 0, Pl.wd s 1, K, Pl.bitsL s 6 K⟩, .slice ad K c, 0, rfl, by rw [Pl.bitsL_len]; exact own_base (own8x (own1 HO.out (by omega) _) (by omega) _ _ _ _ _ _ _ _) (by omega), Pl.shpIs15 h0 h1 HF.out (.inl ⟨⟨h5, by rw [← HK.out]; exact HH.out.1, by rw [← HK.out]; exact HH.out.2, by rw [← HK.out, ← HC.out]; exact HCC.out, by rw [← HC.out]; exact HN.out⟩, by rw [HK.out], rfl⟩), by rw [Pl.bitsL_len]; have := HH.out; omega, bel8 ((HS.out.hb).setCell (p := ⟨w.heap.size + 1 + 1, 7, none⟩) (by simp; omega) _) (Nat.le_refl _) _ _ _ _ _ _ _ _⟩
        · have tn : ((s.size : Int) == 6 + (C : Int)) = false := by rw [beq_eq_false_iff_ne]; omega
          have HN := hideF hn
          clear hn
          obtain ⟨fa, c0, c1, c2, c3, c4, c5, c6, c7⟩ := cells8 st2.b0
          obtain ⟨fb, d0, d1, d2, d3, d4, d5, d6, d7⟩ := cells8 st2.b1
          have HS := hideF st2
          clear st2
          go_wp2
          refine bodyPost_ret (v := .tuple #[.agg #[.int .i64 0, .int .i64 0, .int .i64 0, .int .i64 0, .int .i64 0, .int .i64 0, .int .i64 0, .slice none 0 0], .int .u8 3]) (by simp [results, Try.results19, go_sem, c0, c1, c2, c3, c4, c5, c6, c7]) rfl
            ⟨Pl.noShp, .slice none 0 0, 3, rfl, World.ownsRow_nil _ _ _ _, Pl.shpIs15 h0 h1 HF.out (.inr ⟨fun h => HN.out (by rw [HC.out]; exact h.2.2.2.2), rfl, rfl⟩), by simp [Pl.noShp], bel8 ((HS.out.hb).setCell (p := ⟨w.heap.size + 1 + 1, 6, none⟩) (by simp; omega) _) (Nat.le_refl _) _ _ _ _ _ _ _ _⟩
      · have tc : ((C : Int) == ((K : Int) + 7) / 8) = false := by rw [beq_eq_false_iff_ne]; omega
        have HCC := hideF hc
        clear hc
        obtain ⟨fa, c0, c1, c2, c3, c4, c5, c6, c7⟩ := cells8 st2.b0
        obtain ⟨fb, d0, d1, d2, d3, d4, d5, d6, d7⟩ := cells8 st2.b1
        have HS := hideF st2
        clear st2
        go_wp2
        refine bodyPost_ret (v := .tuple #[.agg #[.int .i64 0, .int .i64 0, .int .i64 0, .int .i64 0, .int .i64 0, .int .i64 0, .int .i64 0, .slice none 0 0], .int .u8 3]) (by simp [results, Try.results19, go_sem, c0, c1, c2, c3, c4, c5, c6, c7]) rfl
          ⟨Pl.noShp, .slice none 0 0, 3, rfl, World.ownsRow_nil _ _ _ _, Pl.shpIs15 h0 h1 HF.out (.inr ⟨fun h => HCC.out (by rw [HC.out, HK.out]; exact h.2.2.2.1), rfl, rfl⟩), by simp [Pl.noShp], bel8 ((HS.out.hb).setCell (p := ⟨w.heap.size + 1 + 1, 6, none⟩) (by simp; omega) _) (Nat.le_refl _) _ _ _ _ _ _ _ _⟩
    · rw [decide_eq_false hi]
      have HH := hideF hi
      clear hi
      obtain ⟨fa, c0, c1, c2, c3, c4, c5, c6, c7⟩ := cells8 st2.b0
      obtain ⟨fb, d0, d1, d2, d3, d4, d5, d6, d7⟩ := cells8 st2.b1
      have HS := hideF st2
      clear st2
      go_wp2
      refine bodyPost_ret (v := .tuple #[.agg #[.int .i64 0, .int .i64 0, .int .i64 0, .int .i64 0, .int .i64 0, .int .i64 0, .int .i64 0, .slice none 0 0], .int .u8 3]) (by simp [results, Try.results19, go_sem, c0, c1, c2, c3, c4, c5, c6, c7]) rfl
        ⟨Pl.noShp, .slice none 0 0, 3, rfl, World.ownsRow_nil _ _ _ _, Pl.shpIs15 h0 h1 HF.out (.inr ⟨fun h => HH.out (by rw [HK.out]; exact ⟨h.2.1, h.2.2.1⟩), rfl, rfl⟩), by simp [Pl.noShp], bel8 ((HS.out.hb).setCell (p := ⟨w.heap.size + 1 + 1, 6, none⟩) (by simp; omega) _) (Nat.le_refl _) _ _ _ _ _ _ _ _⟩
  · go_enter Try.func19, Try.ntmps19
    go_wp2
    refine bodyPost_ret (v := .tuple #[.agg #[.int .i64 0, .int .i64 0, .int .i64 0, .int .i64 0, .int .i64 0, .int .i64 0, .int .i64 0, .slice none 0 0], .int .u8 3]) (by simp [results, Try.results19, go_sem]) rfl
      ⟨Pl.noShp, .slice none 0 0, 3, rfl, World.ownsRow_nil _ _ _ _, Pl.shpIs15 h0 h1 HF.out (.inr ⟨fun h => h5 h.1, rfl, rfl⟩), by simp [Pl.noShp], (bel_alloc (bel_alloc (bel_alloc (Below.refl _ _) _) _) _)⟩

end Go.Proofs.Ytcpldcojckhapaa
