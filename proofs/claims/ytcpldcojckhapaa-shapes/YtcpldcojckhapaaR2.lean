/-
  Package latchref's Shape: what it answers.
-/
import Derived.Test.YtcpldcojckhapaaW6
import Derived.Test.YtcpldcojckhapaaR1
namespace Go.Proofs.Ytcpldcojckhapaa
open Go.RowKit

/-- Where latchref's Shape stands: the result's block, that of none and that of s, all new. -/
structure RefSt (w W : World) (cs : Array Value) : Prop where
  b0 : W.heap[w.heap.size]? = some (.cells #[.int .i64 0, .int .i64 0, .int .i64 0, .int .i64 0, .int .i64 0, .int .i64 0, .int .i64 0, .slice none 0 0] 48 (0, 0))
  b1 : W.heap[w.heap.size + 1]? = some (.cells #[.int .i64 0, .int .i64 0, .int .i64 0, .int .i64 0, .int .i64 0, .int .i64 0, .int .i64 0, .slice none 0 0] 48 (0, 0))
  b2 : W.heap[w.heap.size + 1 + 1]? = some (.cells cs 48 (0, 0))
  hs : w.heap.size + 3 ≤ W.heap.size
  hb : Below w.heap.size w W
theorem RefSt.start (w : World) (a0 a1 a2 a3 a4 a5 a6 a7 : Value) : RefSt w (((w.alloc (.cells #[.int .i64 0, .int .i64 0, .int .i64 0, .int .i64 0, .int .i64 0, .int .i64 0, .int .i64 0, .slice none 0 0] 48)).alloc (.cells #[.int .i64 0, .int .i64 0, .int .i64 0, .int .i64 0, .int .i64 0, .int .i64 0, .int .i64 0, .slice none 0 0] 48)).alloc (.cells #[a0, a1, a2, a3, a4, a5, a6, a7] 48)) #[a0, a1, a2, a3, a4, a5, a6, a7] := by
  obtain ⟨X, hX, x0, x1, xs, xb⟩ := two_facts (w := w)
  rw [← hX]
  refine ⟨?_, ?_, ?_, by simp; omega, bel_alloc xb _⟩
  · rw [heap_alloc_old X _ (by omega)]; exact x0
  · rw [heap_alloc_old X _ (by omega)]; exact x1
  · have := heap_alloc_new X (.cells #[a0, a1, a2, a3, a4, a5, a6, a7] 48)
    rwa [xs] at this
theorem RefSt.set {w W : World} {cs : Array Value} (h : RefSt w W cs) (i : Nat) (a : Value) : RefSt w (W.setCell ⟨w.heap.size + 1 + 1, i, none⟩ a) (cs.setIfInBounds i a) :=
  ⟨(heap_setCell_other W _ _ _ (by simp; omega)).trans h.b0, (heap_setCell_other W _ _ _ (by simp)).trans h.b1, heap_setCell_same W _ i cs 48 a h.b2, by simpa using h.hs, h.hb.setCell (p := ⟨w.heap.size + 1 + 1, i, none⟩) (by simp; omega) _⟩
theorem RefSt.drew {w W : World} {cs : Array Value} (h : RefSt w W cs) (n : Nat) : RefSt w (W.drewN n) cs := ⟨h.b0, h.b1, h.b2, h.hs, below_drewN h.hb n⟩
theorem RefSt.then {w W W' : World} {cs : Array Value} (h : RefSt w W cs) (hb : Below W.heap.size W W') : RefSt w W' cs :=
  ⟨(hb.block _ (by have := h.hs; omega)).trans h.b0, (hb.block _ (by have := h.hs; omega)).trans h.b1, (hb.block _ (by have := h.hs; omega)).trans h.b2, Nat.le_trans h.hs hb.size, bel_then h.hb hb⟩
theorem RefSt.alloc {w W : World} {cs : Array Value} (h : RefSt w W cs) (o : Obj) : RefSt w (W.alloc o) cs := h.then (bel_alloc (Below.refl _ _) _)
theorem new_ints' (W : World) (x : Int) (B g : Nat) (hg : g = W.heap.size) (hB : B ≤ W.heap.size) : (W.alloc (.cells #[.int .i64 x] 3)).ownsRow B 3 1 (.slice (some ⟨g, 0, none⟩) 1 1) 1 ([x].flatMap encI) := by
  subst hg; exact new_ints W x B hB
set_option maxRecDepth 100000 in
set_option maxHeartbeats 4000000 in
theorem rshape_bad (s : ByteArray) (w : World) (h : s.size = 0 ∨ 253 < s.size) :
    Calls Try.prog 19 #[.string s] w fun e w' => ShapeIs w w' e s := by
  by_cases h0 : s.size < 1
  · go_enter Try.func19, Try.ntmps19
    go_wp2
    refine bodyPost_ret (v := .tuple #[.agg #[.int .i64 0, .int .i64 0, .int .i64 0, .int .i64 0, .int .i64 0, .int .i64 0, .int .i64 0, .slice none 0 0], .int .u8 3]) (by simp [results, Try.results19, go_sem]) rfl
      ⟨Pl.noShp, .slice none 0 0, 3, rfl, World.ownsRow_nil _ _ _ _, .inl ⟨h, rfl, rfl⟩, by simp [Pl.noShp], bel_alloc (bel_alloc (Below.refl _ _) _) _⟩
  · have h2 : 253 < s.size := by omega
    go_enter Try.func19, Try.ntmps19
    go_wp2
    refine bodyPost_ret (v := .tuple #[.agg #[.int .i64 0, .int .i64 0, .int .i64 0, .int .i64 0, .int .i64 0, .int .i64 0, .int .i64 0, .slice none 0 0], .int .u8 3]) (by simp [results, Try.results19, go_sem]) rfl
      ⟨Pl.noShp, .slice none 0 0, 3, rfl, World.ownsRow_nil _ _ _ _, .inl ⟨h, rfl, rfl⟩, by simp [Pl.noShp], bel_alloc (bel_alloc (Below.refl _ _) _) _⟩

set_option maxRecDepth 100000 in
set_option maxHeartbeats 4000000 in
theorem rshape_none (s : ByteArray) (w : World) (h0 : 0 < s.size) (h1 : s.size ≤ 253) (hf : Pl.byt s 0 ≠ 1 ∧ Pl.byt s 0 ≠ 2 ∧ Pl.byt s 0 ≠ 3 ∧ Pl.byt s 0 ≠ 4 ∧ Pl.byt s 0 ≠ 5 ∧ Pl.byt s 0 ≠ 6 ∧ Pl.byt s 0 ≠ 15 ∧ Pl.byt s 0 ≠ 16 ∧ Pl.byt s 0 ≠ 22 ∧ Pl.byt s 0 ≠ 23) :
    Calls Try.prog 19 #[.string s] w fun e w' => ShapeIs w w' e s := by
  have gb := Pl.get_byt s
  have HF := hideF hf
  have hb0 := Pl.byt_lt s 0
  have u1 : ((Pl.byt s 0 : Int) == 1) = false := by rw [beq_eq_false_iff_ne]; omega
  have u2 : ((Pl.byt s 0 : Int) == 2) = false := by rw [beq_eq_false_iff_ne]; omega
  have u3 : ((Pl.byt s 0 : Int) == 3) = false := by rw [beq_eq_false_iff_ne]; omega
  have u4 : ((Pl.byt s 0 : Int) == 4) = false := by rw [beq_eq_false_iff_ne]; omega
  have u5 : ((Pl.byt s 0 : Int) == 5) = false := by rw [beq_eq_false_iff_ne]; omega
  have u6 : ((Pl.byt s 0 : Int) == 6) = false := by rw [beq_eq_false_iff_ne]; omega
  have u15 : ((Pl.byt s 0 : Int) == 15) = false := by rw [beq_eq_false_iff_ne]; omega
  have u16 : ((Pl.byt s 0 : Int) == 16) = false := by rw [beq_eq_false_iff_ne]; omega
  have u22 : ((Pl.byt s 0 : Int) == 22) = false := by rw [beq_eq_false_iff_ne]; omega
  have u23 : ((Pl.byt s 0 : Int) == 23) = false := by rw [beq_eq_false_iff_ne]; omega
  clear hf
  go_enter Try.func19, Try.ntmps19
  go_wp2
  refine bodyPost_ret (v := .tuple #[.agg #[.int .i64 0, .int .i64 0, .int .i64 0, .int .i64 0, .int .i64 0, .int .i64 0, .int .i64 0, .slice none 0 0], .int .u8 1]) (by simp [results, Try.results19, go_sem]) rfl
    ⟨Pl.noShp, .slice none 0 0, 1, rfl, World.ownsRow_nil _ _ _ _, Pl.shpIsNone h0 h1 HF.out ⟨rfl, rfl⟩, by simp [Pl.noShp], (bel_alloc (bel_alloc (bel_alloc (Below.refl _ _) _) _) _)⟩

end Go.Proofs.Ytcpldcojckhapaa
