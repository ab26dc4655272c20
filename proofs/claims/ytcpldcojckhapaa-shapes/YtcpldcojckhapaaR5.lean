/-
  Package latchref's Shape, some functions: what it answers.
-/
import Derived.Test.YtcpldcojckhapaaR2b
namespace Go.Proofs.Ytcpldcojckhapaa
open Go.RowKit

set_option maxRecDepth 100000 in
set_option maxHeartbeats 4000000 in
theorem rshape_22 (s : ByteArray) (w : World) (h0 : 0 < s.size) (h1 : s.size ≤ 253) (hf : Pl.byt s 0 = 22) :
    Calls Try.prog 19 #[.string s] w fun e w' => ShapeIs w w' e s := by
  have gb := Pl.get_byt s
  have HF := hideF hf
  by_cases h5 : s.size = 7
  · have t5 : ((s.size : Int) == 7) = true := by rw [beq_iff_eq]; omega
    have l5 : 7 ≤ s.size := by omega
    have l6 : s.size ≤ 7 := by omega
    have H5 := hideF h5
    clear h5
    go_enter Try.func19, Try.ntmps19
    go_wp2_with fail
    refine (rword_any s 1 1 _ rfl (by omega) (by omega)).mono ?_
    rintro e w1 ⟨rfl, n1, hw1⟩
    have st1 : RefSt w w1 #[.int .i64 22, .int .i64 2, .int .i64 0, .int .i64 0, .int .i64 0, .int .i64 0, .int .i64 0, .slice none 0 0] := by rw [hw1]; exact (RefSt.start w _ _ _ _ _ _ _ _).drew _
    clear hw1
    obtain ⟨fz, e0, e1, e2, e3, e4, e5, e6, e7⟩ := cells8 st1.b2
    go_wp2_with fail
    obtain ⟨Y2, hY2⟩ : ∃ Y, Y = (((((w1.setCell ⟨w.heap.size + 1 + 1, 2, none⟩ (.int .i64 (Pl.wd s 1 : Nat))).setCell ⟨w.heap.size + 1 + 1, 3, none⟩ (.int .i64 1)).setCell ⟨w.heap.size + 1 + 1, 4, none⟩ (.int .i64 2)).setCell ⟨w.heap.size + 1 + 1, 5, none⟩ (.int .i64 (Pl.wd s 1 : Nat))).setCell ⟨w.heap.size + 1 + 1, 6, none⟩ (.int .i64 1)) := ⟨_, rfl⟩
    have sy2 : RefSt w Y2 #[.int .i64 22, .int .i64 2, .int .i64 (Pl.wd s 1 : Nat), .int .i64 1, .int .i64 2, .int .i64 (Pl.wd s 1 : Nat), .int .i64 1, .slice none 0 0] := by rw [hY2]; exact (((((st1.set 2 _).set 3 _).set 4 _).set 5 _).set 6 _)
    rw [← hY2]
    clear hY2
    refine (rwords_any s 3 2 Y2 (by omega) (by omega) (by omega)).mono ?_
    rintro e w2 ⟨v, rfl, hown, hb2⟩
    have how := own_base hown sy2.hs
    obtain ⟨ad, c, rfl, _⟩ := own_view how
    have st2 := sy2.then hb2
    clear hb2 hown sy2 st1 fz e0 e1 e2 e3 e4 e5 e6 e7
    obtain ⟨fz, e0, e1, e2, e3, e4, e5, e6, e7⟩ := cells8 st2.b2
    obtain ⟨fa, c0, c1, c2, c3, c4, c5, c6, c7⟩ := cells8 st2.b0
    obtain ⟨fb, d0, d1, d2, d3, d4, d5, d6, d7⟩ := cells8 st2.b1
    have HS := hideF st2
    have HO := hideF how
    clear how
    clear st2
    go_wp2
    refine bodyPost_ret (v := .tuple #[.agg #[.int .i64 22, .int .i64 2, .int .i64 (Pl.wd s 1 : Nat), .int .i64 1, .int .i64 2, .int .i64 (Pl.wd s 1 : Nat), .int .i64 1, .slice ad 2 c], .int .u8 0]) (by simp [results, Try.results19, go_sem, c0, c1, c2, c3, c4, c5, c6, c7]) rfl
      ⟨⟨22, 2, Pl.wd s 1, 1, 2, Pl.wd s 1, 1, Pl.wordsL s 3 2⟩, .slice ad 2 c, 0, rfl, by rw [Pl.wordsL_len]; exact own_base (own8x (own1 HO.out (by omega) _) (by omega) _ _ _ _ _ _ _ _) (by omega), Pl.shpIs22 h0 h1 HF.out (.inl ⟨H5.out, rfl, rfl⟩), by rw [Pl.wordsL_len]; omega, bel8 ((HS.out.hb).setCell (p := ⟨w.heap.size + 1 + 1, 7, none⟩) (by simp; omega) _) (Nat.le_refl _) _ _ _ _ _ _ _ _⟩
  · have t5 : ((s.size : Int) == 7) = false := by rw [beq_eq_false_iff_ne]; omega
    go_enter Try.func19, Try.ntmps19
    go_wp2
    refine bodyPost_ret (v := .tuple #[.agg #[.int .i64 0, .int .i64 0, .int .i64 0, .int .i64 0, .int .i64 0, .int .i64 0, .int .i64 0, .slice none 0 0], .int .u8 3]) (by simp [results, Try.results19, go_sem]) rfl
      ⟨Pl.noShp, .slice none 0 0, 3, rfl, World.ownsRow_nil _ _ _ _, Pl.shpIs22 h0 h1 HF.out (.inr ⟨h5, rfl, rfl⟩), by simp [Pl.noShp], (bel_alloc (bel_alloc (bel_alloc (Below.refl _ _) _) _) _)⟩

end Go.Proofs.Ytcpldcojckhapaa
