/-
  Package latchref's Shape, some functions: what it answers.
-/
import Derived.Test.YtcpldcojckhapaaR2
namespace Go.Proofs.Ytcpldcojckhapaa
open Go.RowKit

set_option maxRecDepth 100000 in
set_option maxHeartbeats 4000000 in
theorem rshape_1 (s : ByteArray) (w : World) (h0 : 0 < s.size) (h1 : s.size ≤ 253) (hf : Pl.byt s 0 = 1) :
    Calls Try.prog 19 #[.string s] w fun e w' => ShapeIs w w' e s := by
  have gb := Pl.get_byt s
  have HF := hideF hf
  by_cases h5 : s.size = 5
  · have t5 : ((s.size : Int) == 5) = true := by rw [beq_iff_eq]; omega
    have l5 : 5 ≤ s.size := by omega
    have H5 := hideF h5
    clear h5
    go_enter Try.func19, Try.ntmps19
    go_wp2_with fail
    refine (rword_any s 1 1 _ rfl (by omega) (by omega)).mono ?_
    rintro e w1 ⟨rfl, n1, hw1⟩
    have st1 : RefSt w w1 #[.int .i64 1, .int .i64 0, .int .i64 0, .int .i64 0, .int .i64 0, .int .i64 0, .int .i64 0, .slice none 0 0] := by rw [hw1]; exact (RefSt.start w _ _ _ _ _ _ _ _).drew _
    clear hw1
    obtain ⟨fz, e0, e1, e2, e3, e4, e5, e6, e7⟩ := cells8 st1.b2
    go_wp2_with fail
    refine (rword_any s 3 3 _ rfl (by omega) (by omega)).mono ?_
    rintro e w2 ⟨rfl, n2, hw2⟩
    have st2 : RefSt w w2 #[.int .i64 1, .int .i64 0, .int .i64 (Pl.wd s 1 : Nat), .int .i64 0, .int .i64 0, .int .i64 0, .int .i64 0, .slice none 0 0] := by rw [hw2]; exact (st1.set 2 _).drew _
    clear hw2 fz e0 e1 e2 e3 e4 e5 e6 e7
    clear st1
    obtain ⟨fz, e0, e1, e2, e3, e4, e5, e6, e7⟩ := cells8 st2.b2
    go_wp2_with fail
    refine (in_any (Pl.wd s 3) 1 2000 _).mono ?_
    rintro e w3 ⟨rfl, rfl⟩
    by_cases hi : 1 ≤ Pl.wd s 3 ∧ Pl.wd s 3 ≤ 2000
    · rw [decide_eq_true hi]
      obtain ⟨fa, c0, c1, c2, c3, c4, c5, c6, c7⟩ := cells8 st2.b0
      obtain ⟨fb, d0, d1, d2, d3, d4, d5, d6, d7⟩ := cells8 st2.b1
      have HS := hideF st2
      clear st2
      go_wp2
      refine bodyPost_ret (v := .tuple #[.agg #[.int .i64 1, .int .i64 0, .int .i64 (Pl.wd s 1 : Nat), .int .i64 (Pl.wd s 3 : Nat), .int .i64 0, .int .i64 0, .int .i64 0, .slice none 0 0], .int .u8 0]) (by simp [results, Try.results19, go_sem, c0, c1, c2, c3, c4, c5, c6, c7]) rfl
        ⟨⟨1, 0, Pl.wd s 1, Pl.wd s 3, 0, 0, 0, []⟩, .slice none 0 0, 0, rfl, World.ownsRow_nil _ _ _ _, Pl.shpIs1 h0 h1 HF.out (.inl ⟨⟨H5.out, hi⟩, rfl, rfl⟩), by simp, bel8 ((HS.out.hb).setCell (p := ⟨w.heap.size + 1 + 1, 3, none⟩) (by simp; omega) _) (Nat.le_refl _) _ _ _ _ _ _ _ _⟩
    · rw [decide_eq_false hi]
      obtain ⟨fa, c0, c1, c2, c3, c4, c5, c6, c7⟩ := cells8 st2.b0
      obtain ⟨fb, d0, d1, d2, d3, d4, d5, d6, d7⟩ := cells8 st2.b1
      have HS := hideF st2
      clear st2
      go_wp2
      refine bodyPost_ret (v := .tuple #[.agg #[.int .i64 0, .int .i64 0, .int .i64 0, .int .i64 0, .int .i64 0, .int .i64 0, .int .i64 0, .slice none 0 0], .int .u8 3]) (by simp [results, Try.results19, go_sem, c0, c1, c2, c3, c4, c5, c6, c7]) rfl
        ⟨Pl.noShp, .slice none 0 0, 3, rfl, World.ownsRow_nil _ _ _ _, Pl.shpIs1 h0 h1 HF.out (.inr ⟨fun h => hi h.2, rfl, rfl⟩), by simp [Pl.noShp], bel8 ((HS.out.hb).setCell (p := ⟨w.heap.size + 1 + 1, 3, none⟩) (by simp; omega) _) (Nat.le_refl _) _ _ _ _ _ _ _ _⟩
  · have t5 : ((s.size : Int) == 5) = false := by rw [beq_eq_false_iff_ne]; omega
    go_enter Try.func19, Try.ntmps19
    go_wp2
    refine bodyPost_ret (v := .tuple #[.agg #[.int .i64 0, .int .i64 0, .int .i64 0, .int .i64 0, .int .i64 0, .int .i64 0, .int .i64 0, .slice none 0 0], .int .u8 3]) (by simp [results, Try.results19, go_sem]) rfl
      ⟨Pl.noShp, .slice none 0 0, 3, rfl, World.ownsRow_nil _ _ _ _, Pl.shpIs1 h0 h1 HF.out (.inr ⟨fun h => h5 h.1, rfl, rfl⟩), by simp [Pl.noShp], (bel_alloc (bel_alloc (bel_alloc (Below.refl _ _) _) _) _)⟩

set_option maxRecDepth 100000 in
set_option maxHeartbeats 4000000 in
theorem rshape_2 (s : ByteArray) (w : World) (h0 : 0 < s.size) (h1 : s.size ≤ 253) (hf : Pl.byt s 0 = 2) :
    Calls Try.prog 19 #[.string s] w fun e w' => ShapeIs w w' e s := by
  have gb := Pl.get_byt s
  have HF := hideF hf
  by_cases h5 : s.size = 5
  · have t5 : ((s.size : Int) == 5) = true := by rw [beq_iff_eq]; omega
    have l5 : 5 ≤ s.size := by omega
    have H5 := hideF h5
    clear h5
    go_enter Try.func19, Try.ntmps19
    go_wp2_with fail
    refine (rword_any s 1 1 _ rfl (by omega) (by omega)).mono ?_
    rintro e w1 ⟨rfl, n1, hw1⟩
    have st1 : RefSt w w1 #[.int .i64 2, .int .i64 1, .int .i64 0, .int .i64 0, .int .i64 0, .int .i64 0, .int .i64 0, .slice none 0 0] := by rw [hw1]; exact (RefSt.start w _ _ _ _ _ _ _ _).drew _
    clear hw1
    obtain ⟨fz, e0, e1, e2, e3, e4, e5, e6, e7⟩ := cells8 st1.b2
    go_wp2_with fail
    refine (rword_any s 3 3 _ rfl (by omega) (by omega)).mono ?_
    rintro e w2 ⟨rfl, n2, hw2⟩
    have st2 : RefSt w w2 #[.int .i64 2, .int .i64 1, .int .i64 (Pl.wd s 1 : Nat), .int .i64 0, .int .i64 0, .int .i64 0, .int .i64 0, .slice none 0 0] := by rw [hw2]; exact (st1.set 2 _).drew _
    clear hw2 fz e0 e1 e2 e3 e4 e5 e6 e7
    clear st1
    obtain ⟨fz, e0, e1, e2, e3, e4, e5, e6, e7⟩ := cells8 st2.b2
    go_wp2_with fail
    refine (in_any (Pl.wd s 3) 1 2000 _).mono ?_
    rintro e w3 ⟨rfl, rfl⟩
    by_cases hi : 1 ≤ Pl.wd s 3 ∧ Pl.wd s 3 ≤ 2000
    · rw [decide_eq_true hi]
      obtain ⟨fa, c0, c1, c2, c3, c4, c5, c6, c7⟩ := cells8 st2.b0
      obtain ⟨fb, d0, d1, d2, d3, d4, d5, d6, d7⟩ := cells8 st2.b1
      have HS := hideF st2
      clear st2
      go_wp2
      refine bodyPost_ret (v := .tuple #[.agg #[.int .i64 2, .int .i64 1, .int .i64 (Pl.wd s 1 : Nat), .int .i64 (Pl.wd s 3 : Nat), .int .i64 0, .int .i64 0, .int .i64 0, .slice none 0 0], .int .u8 0]) (by simp [results, Try.results19, go_sem, c0, c1, c2, c3, c4, c5, c6, c7]) rfl
        ⟨⟨2, 1, Pl.wd s 1, Pl.wd s 3, 0, 0, 0, []⟩, .slice none 0 0, 0, rfl, World.ownsRow_nil _ _ _ _, Pl.shpIs2 h0 h1 HF.out (.inl ⟨⟨H5.out, hi⟩, rfl, rfl⟩), by simp, bel8 ((HS.out.hb).setCell (p := ⟨w.heap.size + 1 + 1, 3, none⟩) (by simp; omega) _) (Nat.le_refl _) _ _ _ _ _ _ _ _⟩
    · rw [decide_eq_false hi]
      obtain ⟨fa, c0, c1, c2, c3, c4, c5, c6, c7⟩ := cells8 st2.b0
      obtain ⟨fb, d0, d1, d2, d3, d4, d5, d6, d7⟩ := cells8 st2.b1
      have HS := hideF st2
      clear st2
      go_wp2
      refine bodyPost_ret (v := .tuple #[.agg #[.int .i64 0, .int .i64 0, .int .i64 0, .int .i64 0, .int .i64 0, .int .i64 0, .int .i64 0, .slice none 0 0], .int .u8 3]) (by simp [results, Try.results19, go_sem, c0, c1, c2, c3, c4, c5, c6, c7]) rfl
        ⟨Pl.noShp, .slice none 0 0, 3, rfl, World.ownsRow_nil _ _ _ _, Pl.shpIs2 h0 h1 HF.out (.inr ⟨fun h => hi h.2, rfl, rfl⟩), by simp [Pl.noShp], bel8 ((HS.out.hb).setCell (p := ⟨w.heap.size + 1 + 1, 3, none⟩) (by simp; omega) _) (Nat.le_refl _) _ _ _ _ _ _ _ _⟩
  · have t5 : ((s.size : Int) == 5) = false := by rw [beq_eq_false_iff_ne]; omega
    go_enter Try.func19, Try.ntmps19
    go_wp2
    refine bodyPost_ret (v := .tuple #[.agg #[.int .i64 0, .int .i64 0, .int .i64 0, .int .i64 0, .int .i64 0, .int .i64 0, .int .i64 0, .slice none 0 0], .int .u8 3]) (by simp [results, Try.results19, go_sem]) rfl
      ⟨Pl.noShp, .slice none 0 0, 3, rfl, World.ownsRow_nil _ _ _ _, Pl.shpIs2 h0 h1 HF.out (.inr ⟨fun h => h5 h.1, rfl, rfl⟩), by simp [Pl.noShp], (bel_alloc (bel_alloc (bel_alloc (Below.refl _ _) _) _) _)⟩

set_option maxRecDepth 100000 in
set_option maxHeartbeats 4000000 in
theorem rshape_3 (s : ByteArray) (w : World) (h0 : 0 < s.size) (h1 : s.size ≤ 253) (hf : Pl.byt s 0 = 3) :
    Calls Try.prog 19 #[.string s] w fun e w' => ShapeIs w w' e s := by
  have gb := Pl.get_byt s
  have HF := hideF hf
  by_cases h5 : s.size = 5
  · have t5 : ((s.size : Int) == 5) = true := by rw [beq_iff_eq]; omega
    have l5 : 5 ≤ s.size := by omega
    have H5 := hideF h5
    clear h5
    go_enter Try.func19, Try.ntmps19
    go_wp2_with fail
    refine (rword_any s 1 1 _ rfl (by omega) (by omega)).mono ?_
    rintro e w1 ⟨rfl, n1, hw1⟩
    have st1 : RefSt w w1 #[.int .i64 3, .int .i64 2, .int .i64 0, .int .i64 0, .int .i64 0, .int .i64 0, .int .i64 0, .slice none 0 0] := by rw [hw1]; exact (RefSt.start w _ _ _ _ _ _ _ _).drew _
    clear hw1
    obtain ⟨fz, e0, e1, e2, e3, e4, e5, e6, e7⟩ := cells8 st1.b2
    go_wp2_with fail
    refine (rword_any s 3 3 _ rfl (by omega) (by omega)).mono ?_
    rintro e w2 ⟨rfl, n2, hw2⟩
    have st2 : RefSt w w2 #[.int .i64 3, .int .i64 2, .int .i64 (Pl.wd s 1 : Nat), .int .i64 0, .int .i64 0, .int .i64 0, .int .i64 0, .slice none 0 0] := by rw [hw2]; exact (st1.set 2 _).drew _
    clear hw2 fz e0 e1 e2 e3 e4 e5 e6 e7
    clear st1
    obtain ⟨fz, e0, e1, e2, e3, e4, e5, e6, e7⟩ := cells8 st2.b2
    go_wp2_with fail
    refine (in_any (Pl.wd s 3) 1 125 _).mono ?_
    rintro e w3 ⟨rfl, rfl⟩
    by_cases hi : 1 ≤ Pl.wd s 3 ∧ Pl.wd s 3 ≤ 125
    · rw [decide_eq_true hi]
      obtain ⟨fa, c0, c1, c2, c3, c4, c5, c6, c7⟩ := cells8 st2.b0
      obtain ⟨fb, d0, d1, d2, d3, d4, d5, d6, d7⟩ := cells8 st2.b1
      have HS := hideF st2
      clear st2
      go_wp2
      refine bodyPost_ret (v := .tuple #[.agg #[.int .i64 3, .int .i64 2, .int .i64 (Pl.wd s 1 : Nat), .int .i64 (Pl.wd s 3 : Nat), .int .i64 0, .int .i64 0, .int .i64 0, .slice none 0 0], .int .u8 0]) (by simp [results, Try.results19, go_sem, c0, c1, c2, c3, c4, c5, c6, c7]) rfl
        ⟨⟨3, 2, Pl.wd s 1, Pl.wd s 3, 0, 0, 0, []⟩, .slice none 0 0, 0, rfl, World.ownsRow_nil _ _ _ _, Pl.shpIs3 h0 h1 HF.out (.inl ⟨⟨H5.out, hi⟩, rfl, rfl⟩), by simp, bel8 ((HS.out.hb).setCell (p := ⟨w.heap.size + 1 + 1, 3, none⟩) (by simp; omega) _) (Nat.le_refl _) _ _ _ _ _ _ _ _⟩
    · rw [decide_eq_false hi]
      obtain ⟨fa, c0, c1, c2, c3, c4, c5, c6, c7⟩ := cells8 st2.b0
      obtain ⟨fb, d0, d1, d2, d3, d4, d5, d6, d7⟩ := cells8 st2.b1
      have HS := hideF st2
      clear st2
      go_wp2
      refine bodyPost_ret (v := .tuple #[.agg #[.int .i64 0, .int .i64 0, .int .i64 0, .int .i64 0, .int .i64 0, .int .i64 0, .int .i64 0, .slice none 0 0], .int .u8 3]) (by simp [results, Try.results19, go_sem, c0, c1, c2, c3, c4, c5, c6, c7]) rfl
        ⟨Pl.noShp, .slice none 0 0, 3, rfl, World.ownsRow_nil _ _ _ _, Pl.shpIs3 h0 h1 HF.out (.inr ⟨fun h => hi h.2, rfl, rfl⟩), by simp [Pl.noShp], bel8 ((HS.out.hb).setCell (p := ⟨w.heap.size + 1 + 1, 3, none⟩) (by simp; omega) _) (Nat.le_refl _) _ _ _ _ _ _ _ _⟩
  · have t5 : ((s.size : Int) == 5) = false := by rw [beq_eq_false_iff_ne]; omega
    go_enter Try.func19, Try.ntmps19
    go_wp2
    refine bodyPost_ret (v := .tuple #[.agg #[.int .i64 0, .int .i64 0, .int .i64 0, .int .i64 0, .int .i64 0, .int .i64 0, .int .i64 0, .slice none 0 0], .int .u8 3]) (by simp [results, Try.results19, go_sem]) rfl
      ⟨Pl.noShp, .slice none 0 0, 3, rfl, World.ownsRow_nil _ _ _ _, Pl.shpIs3 h0 h1 HF.out (.inr ⟨fun h => h5 h.1, rfl, rfl⟩), by simp [Pl.noShp], (bel_alloc (bel_alloc (bel_alloc (Below.refl _ _) _) _) _)⟩

set_option maxRecDepth 100000 in
set_option maxHeartbeats 4000000 in
theorem rshape_4 (s : ByteArray) (w : World) (h0 : 0 < s.size) (h1 : s.size ≤ 253) (hf : Pl.byt s 0 = 4) :
    Calls Try.prog 19 #[.string s] w fun e w' => ShapeIs w w' e s := by
  have gb := Pl.get_byt s
  have HF := hideF hf
  by_cases h5 : s.size = 5
  · have t5 : ((s.size : Int) == 5) = true := by rw [beq_iff_eq]; omega
    have l5 : 5 ≤ s.size := by omega
    have H5 := hideF h5
    clear h5
    go_enter Try.func19, Try.ntmps19
    go_wp2_with fail
    refine (rword_any s 1 1 _ rfl (by omega) (by omega)).mono ?_
    rintro e w1 ⟨rfl, n1, hw1⟩
    have st1 : RefSt w w1 #[.int .i64 4, .int .i64 3, .int .i64 0, .int .i64 0, .int .i64 0, .int .i64 0, .int .i64 0, .slice none 0 0] := by rw [hw1]; exact (RefSt.start w _ _ _ _ _ _ _ _).drew _
    clear hw1
    obtain ⟨fz, e0, e1, e2, e3, e4, e5, e6, e7⟩ := cells8 st1.b2
    go_wp2_with fail
    refine (rword_any s 3 3 _ rfl (by omega) (by omega)).mono ?_
    rintro e w2 ⟨rfl, n2, hw2⟩
    have st2 : RefSt w w2 #[.int .i64 4, .int .i64 3, .int .i64 (Pl.wd s 1 : Nat), .int .i64 0, .int .i64 0, .int .i64 0, .int .i64 0, .slice none 0 0] := by rw [hw2]; exact (st1.set 2 _).drew _
    clear hw2 fz e0 e1 e2 e3 e4 e5 e6 e7
    clear st1
    obtain ⟨fz, e0, e1, e2, e3, e4, e5, e6, e7⟩ := cells8 st2.b2
    go_wp2_with fail
    refine (in_any (Pl.wd s 3) 1 125 _).mono ?_
    rintro e w3 ⟨rfl, rfl⟩
    by_cases hi : 1 ≤ Pl.wd s 3 ∧ Pl.wd s 3 ≤ 125
    · rw [decide_eq_true hi]
      obtain ⟨fa, c0, c1, c2, c3, c4, c5, c6, c7⟩ := cells8 st2.b0
      obtain ⟨fb, d0, d1, d2, d3, d4, d5, d6, d7⟩ := cells8 st2.b1
      have HS := hideF st2
      clear st2
      go_wp2
      refine bodyPost_ret (v := .tuple #[.agg #[.int .i64 4, .int .i64 3, .int .i64 (Pl.wd s 1 : Nat), .int .i64 (Pl.wd s 3 : Nat), .int .i64 0, .int .i64 0, .int .i64 0, .slice none 0 0], .int .u8 0]) (by simp [results, Try.results19, go_sem, c0, c1, c2, c3, c4, c5, c6, c7]) rfl
        ⟨⟨4, 3, Pl.wd s 1, Pl.wd s 3, 0, 0, 0, []⟩, .slice none 0 0, 0, rfl, World.ownsRow_nil _ _ _ _, Pl.shpIs4 h0 h1 HF.out (.inl ⟨⟨H5.out, hi⟩, rfl, rfl⟩), by simp, bel8 ((HS.out.hb).setCell (p := ⟨w.heap.size + 1 + 1, 3, none⟩) (by simp; omega) _) (Nat.le_refl _) _ _ _ _ _ _ _ _⟩
    · rw [decide_eq_false hi]
      obtain ⟨fa, c0, c1, c2, c3, c4, c5, c6, c7⟩ := cells8 st2.b0
      obtain ⟨fb, d0, d1, d2, d3, d4, d5, d6, d7⟩ := cells8 st2.b1
      have HS := hideF st2
      clear st2
      go_wp2
      refine bodyPost_ret (v := .tuple #[.agg #[.int .i64 0, .int .i64 0, .int .i64 0, .int .i64 0, .int .i64 0, .int .i64 0, .int .i64 0, .slice none 0 0], .int .u8 3]) (by simp [results, Try.results19, go_sem, c0, c1, c2, c3, c4, c5, c6, c7]) rfl
        ⟨Pl.noShp, .slice none 0 0, 3, rfl, World.ownsRow_nil _ _ _ _, Pl.shpIs4 h0 h1 HF.out (.inr ⟨fun h => hi h.2, rfl, rfl⟩), by simp [Pl.noShp], bel8 ((HS.out.hb).setCell (p := ⟨w.heap.size + 1 + 1, 3, none⟩) (by simp; omega) _) (Nat.le_refl _) _ _ _ _ _ _ _ _⟩
  · have t5 : ((s.size : Int) == 5) = false := by rw [beq_eq_false_iff_ne]; omega
    go_enter Try.func19, Try.ntmps19
    go_wp2
    refine bodyPost_ret (v := .tuple #[.agg #[.int .i64 0, .int .i64 0, .int .i64 0, .int .i64 0, .int .i64 0, .int .i64 0, .int .i64 0, .slice none 0 0], .int .u8 3]) (by simp [results, Try.results19, go_sem]) rfl
      ⟨Pl.noShp, .slice none 0 0, 3, rfl, World.ownsRow_nil _ _ _ _, Pl.shpIs4 h0 h1 HF.out (.inr ⟨fun h => h5 h.1, rfl, rfl⟩), by simp [Pl.noShp], (bel_alloc (bel_alloc (bel_alloc (Below.refl _ _) _) _) _)⟩

end Go.Proofs.Ytcpldcojckhapaa
