/-
  Package latchref's Shape, some functions: what it answers.
-/
import Derived.Test.YtcpldcojckhapaaR2b
namespace Go.Proofs.Ytcpldcojckhapaa
open Go.RowKit

set_option maxRecDepth 100000 in
set_option maxHeartbeats 4000000 in
theorem rshape_6 (s : ByteArray) (w : World) (h0 : 0 < s.size) (h1 : s.size ≤ 253) (hf : Pl.byt s 0 = 6) :
    Calls Try.prog 19 #[.string s] w fun e w' => ShapeIs w w' e s := by
  have gb := Pl.get_byt s
  have HF := hideF hf
  by_cases h5 : s.size = 5
  · have t5 : ((s.size : Int) == 5) = true := by rw [beq_iff_eq]; omega
    have l5 : 5 ≤ s.size := by omega
    have H5 := hideF h5
    clear h5
    go_enter Try.func19, Try.ntmps19
    go_wp2_with fail
    refine (rword_any s 3 3 _ rfl (by omega) (by omega)).mono ?_
    rintro e w1 ⟨rfl, n1, hw1⟩
    have st1 : RefSt w w1 #[.int .i64 6, .int .i64 0, .int .i64 0, .int .i64 0, .int .i64 0, .int .i64 0, .int .i64 0, .slice none 0 0] := by rw [hw1]; exact (RefSt.start w _ _ _ _ _ _ _ _).drew _
    clear hw1
    obtain ⟨fz, e0, e1, e2, e3, e4, e5, e6, e7⟩ := cells8 st1.b2
    go_wp2_with fail
    refine (rword_any s 1 1 _ rfl (by omega) (by omega)).mono ?_
    rintro e w2 ⟨rfl, n2, hw2⟩
    have st2 : RefSt w w2 #[.int .i64 6, .int .i64 0, .int .i64 0, .int .i64 0, .int .i64 0, .int .i64 0, .int .i64 0, .slice none 0 0] := by rw [hw2]; exact st1.drew _
    clear hw2 fz e0 e1 e2 e3 e4 e5 e6 e7
    clear st1
    obtain ⟨fz, e0, e1, e2, e3, e4, e5, e6, e7⟩ := cells8 st2.b2
    obtain ⟨V, hV⟩ : ∃ V, V = Pl.wd s 3 := ⟨_, rfl⟩
    rw [← hV]
    have HV := hideF hV
    have hVl : V < 65536 := by rw [hV]; exact Pl.wd_lt s 3
    clear hV
    obtain ⟨fa, c0, c1, c2, c3, c4, c5, c6, c7⟩ := cells8 st2.b0
    obtain ⟨fb, d0, d1, d2, d3, d4, d5, d6, d7⟩ := cells8 st2.b1
    have z0 : w.heap.size < w2.heap.size := by have := st2.hs; omega
    have z1 : w.heap.size + 1 < w2.heap.size := by have := st2.hs; omega
    have z2 : w.heap.size + 1 + 1 < w2.heap.size := by have := st2.hs; omega
    have HS := hideF st2
    clear st2
    go_wp2
    refine bodyPost_ret (v := .tuple #[.agg #[.int .i64 6, .int .i64 0, .int .i64 0, .int .i64 0, .int .i64 2, .int .i64 (Pl.wd s 1 : Nat), .int .i64 1, .slice (some ⟨w2.heap.size, 0, none⟩) 1 1], .int .u8 0]) (by simp [results, Try.results19, go_sem, z0, c0, c1, c2, c3, c4, c5, c6, c7]) rfl
      ⟨⟨6, 0, 0, 0, 2, Pl.wd s 1, 1, [((V : Nat) : Int)]⟩, _, 0, rfl, new_ints' _ (V : Nat) w.heap.size w2.heap.size (by simp) (by simp; omega), Pl.shpIs6 h0 h1 HF.out (.inl ⟨H5.out, by rw [HV.out], rfl⟩), by simp, bel_alloc (bel8 ((((((((HS.out.hb).setCell (p := ⟨w.heap.size + 1 + 1, 5, none⟩) (by simp; omega) _)).setCell (p := ⟨w.heap.size + 1 + 1, 6, none⟩) (by simp; omega) _)).setCell (p := ⟨w.heap.size + 1 + 1, 7, none⟩) (by simp; omega) _)).setCell (p := ⟨w.heap.size + 1 + 1, 4, none⟩) (by simp; omega) _) (Nat.le_refl _) _ _ _ _ _ _ _ _) _⟩
  · have t5 : ((s.size : Int) == 5) = false := by rw [beq_eq_false_iff_ne]; omega
    go_enter Try.func19, Try.ntmps19
    go_wp2
    refine bodyPost_ret (v := .tuple #[.agg #[.int .i64 0, .int .i64 0, .int .i64 0, .int .i64 0, .int .i64 0, .int .i64 0, .int .i64 0, .slice none 0 0], .int .u8 3]) (by simp [results, Try.results19, go_sem]) rfl
      ⟨Pl.noShp, .slice none 0 0, 3, rfl, World.ownsRow_nil _ _ _ _, Pl.shpIs6 h0 h1 HF.out (.inr ⟨h5, rfl, rfl⟩), by simp [Pl.noShp], (bel_alloc (bel_alloc (bel_alloc (Below.refl _ _) _) _) _)⟩

end Go.Proofs.Ytcpldcojckhapaa
