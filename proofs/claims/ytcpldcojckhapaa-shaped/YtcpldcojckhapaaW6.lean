/-
  Package pdu's Shape: what it answers.
-/
import Derived.Test.YtcpldcojckhapaaW5
namespace Go.Proofs.Ytcpldcojckhapaa
open Go.RowKit

/-- What a Shape answers: the document's, its values new memory. -/
def ShapeIs (w w' : World) (e : Ending) (s : ByteArray) : Prop :=
  ∃ (x : Pl.Shp) (v : Value) (k : Nat), e = .returned (.tuple #[shV x v, .int .u8 (k : Nat)]) ∧ w'.ownsRow w.heap.size 3 1 v x.vals.length (x.vals.flatMap encI) ∧ Pl.ShpIs s x k ∧ x.vals.length ≤ 2000 ∧ Below w.heap.size w w'
theorem two_facts {w : World} : ∃ X, X = (w.alloc (.cells #[.int .i64 0, .int .i64 0, .int .i64 0, .int .i64 0, .int .i64 0, .int .i64 0, .int .i64 0, .slice none 0 0] 48)).alloc (.cells #[.int .i64 0, .int .i64 0, .int .i64 0, .int .i64 0, .int .i64 0, .int .i64 0, .int .i64 0, .slice none 0 0] 48) ∧ X.heap[w.heap.size]? = some (.cells #[.int .i64 0, .int .i64 0, .int .i64 0, .int .i64 0, .int .i64 0, .int .i64 0, .int .i64 0, .slice none 0 0] 48 (0, 0)) ∧ X.heap[w.heap.size + 1]? = some (.cells #[.int .i64 0, .int .i64 0, .int .i64 0, .int .i64 0, .int .i64 0, .int .i64 0, .int .i64 0, .slice none 0 0] 48 (0, 0)) ∧ X.heap.size = w.heap.size + 2 ∧ Below w.heap.size w X := by
  refine ⟨_, rfl, ?_, ?_, by simp, bel_alloc (bel_alloc (Below.refl _ _) _) _⟩
  · have := heap_alloc_old (w.alloc (.cells #[.int .i64 0, .int .i64 0, .int .i64 0, .int .i64 0, .int .i64 0, .int .i64 0, .int .i64 0, .slice none 0 0] 48)) (.cells #[.int .i64 0, .int .i64 0, .int .i64 0, .int .i64 0, .int .i64 0, .int .i64 0, .int .i64 0, .slice none 0 0] 48) (r := w.heap.size) (by simp)
    rw [this]; exact heap_alloc_new w _
  · have := heap_alloc_new (w.alloc (.cells #[.int .i64 0, .int .i64 0, .int .i64 0, .int .i64 0, .int .i64 0, .int .i64 0, .int .i64 0, .slice none 0 0] 48)) (.cells #[.int .i64 0, .int .i64 0, .int .i64 0, .int .i64 0, .int .i64 0, .int .i64 0, .int .i64 0, .slice none 0 0] 48)
    simpa using this
theorem own1 {W : World} {g C j : Nat} {v : Value} {n : Nat} {xs : List Value} (h : W.ownsRow C 3 1 v n xs) (hg : g < C) (a : Value) : (W.setCell ⟨g, j, none⟩ a).ownsRow C 3 1 v n xs :=
  own_same h fun k hk => heap_setCell_other W _ _ _ (by have := (h.lt k hk).1; simp; omega)
theorem own8x {W : World} {g C : Nat} {v : Value} {n : Nat} {xs : List Value} (h : W.ownsRow C 3 1 v n xs) (hg : g < C) (a0 a1 a2 a3 a4 a5 a6 a7 : Value) : ((((((((( W.setCell ⟨g, 0, none⟩ a0).setCell ⟨g, 1, none⟩ a1).setCell ⟨g, 2, none⟩ a2).setCell ⟨g, 3, none⟩ a3).setCell ⟨g, 4, none⟩ a4).setCell ⟨g, 5, none⟩ a5).setCell ⟨g, 6, none⟩ a6).setCell ⟨g, 7, none⟩ a7)).ownsRow C 3 1 v n xs :=
  own1 (own1 (own1 (own1 (own1 (own1 (own1 (own1 h hg _) hg _) hg _) hg _) hg _) hg _) hg _) hg _

namespace Pl
theorem shpIs1 {s : ByteArray} (h0 : 0 < s.size) (h1 : s.size ≤ 253) (hf : byt s 0 = 1) {x : Shp} {k : Nat} (h : rdOk 2000 s ∧ x = ⟨1, 0, wd s 1, wd s 3, 0, 0, 0, []⟩ ∧ k = 0 ∨ ¬ rdOk 2000 s ∧ x = noShp ∧ k = 3) : ShpIs s x k := .inr ⟨⟨h0, h1⟩, .inl ⟨hf, h⟩⟩
theorem shpIs2 {s : ByteArray} (h0 : 0 < s.size) (h1 : s.size ≤ 253) (hf : byt s 0 = 2) {x : Shp} {k : Nat} (h : rdOk 2000 s ∧ x = ⟨2, 1, wd s 1, wd s 3, 0, 0, 0, []⟩ ∧ k = 0 ∨ ¬ rdOk 2000 s ∧ x = noShp ∧ k = 3) : ShpIs s x k := .inr ⟨⟨h0, h1⟩, .inr (.inl ⟨hf, h⟩)⟩
theorem shpIs3 {s : ByteArray} (h0 : 0 < s.size) (h1 : s.size ≤ 253) (hf : byt s 0 = 3) {x : Shp} {k : Nat} (h : rdOk 125 s ∧ x = ⟨3, 2, wd s 1, wd s 3, 0, 0, 0, []⟩ ∧ k = 0 ∨ ¬ rdOk 125 s ∧ x = noShp ∧ k = 3) : ShpIs s x k := .inr ⟨⟨h0, h1⟩, .inr (.inr (.inl ⟨hf, h⟩))⟩
theorem shpIs4 {s : ByteArray} (h0 : 0 < s.size) (h1 : s.size ≤ 253) (hf : byt s 0 = 4) {x : Shp} {k : Nat} (h : rdOk 125 s ∧ x = ⟨4, 3, wd s 1, wd s 3, 0, 0, 0, []⟩ ∧ k = 0 ∨ ¬ rdOk 125 s ∧ x = noShp ∧ k = 3) : ShpIs s x k := .inr ⟨⟨h0, h1⟩, .inr (.inr (.inr (.inl ⟨hf, h⟩)))⟩
theorem shpIs5 {s : ByteArray} (h0 : 0 < s.size) (h1 : s.size ≤ 253) (hf : byt s 0 = 5) {x : Shp} {k : Nat} (h : coilOk s ∧ x = ⟨5, 0, 0, 0, 0, wd s 1, 1, [((wd s 3 / 65280 : Nat) : Int)]⟩ ∧ k = 0 ∨ ¬ coilOk s ∧ x = noShp ∧ k = 3) : ShpIs s x k := .inr ⟨⟨h0, h1⟩, .inr (.inr (.inr (.inr (.inl ⟨hf, h⟩))))⟩
theorem shpIs6 {s : ByteArray} (h0 : 0 < s.size) (h1 : s.size ≤ 253) (hf : byt s 0 = 6) {x : Shp} {k : Nat} (h : s.size = 5 ∧ x = ⟨6, 0, 0, 0, 2, wd s 1, 1, [((wd s 3 : Nat) : Int)]⟩ ∧ k = 0 ∨ ¬ s.size = 5 ∧ x = noShp ∧ k = 3) : ShpIs s x k := .inr ⟨⟨h0, h1⟩, .inr (.inr (.inr (.inr (.inr (.inl ⟨hf, h⟩)))))⟩
theorem shpIs15 {s : ByteArray} (h0 : 0 < s.size) (h1 : s.size ≤ 253) (hf : byt s 0 = 15) {x : Shp} {k : Nat} (h : coilsOk s ∧ x = ⟨15, 0, 0, 0, 0, wd s 1, wd s 3, bitsL s 6 (wd s 3)⟩ ∧ k = 0 ∨ ¬ coilsOk s ∧ x = noShp ∧ k = 3) : ShpIs s x k := .inr ⟨⟨h0, h1⟩, .inr (.inr (.inr (.inr (.inr (.inr (.inl ⟨hf, h⟩))))))⟩
theorem shpIs16 {s : ByteArray} (h0 : 0 < s.size) (h1 : s.size ≤ 253) (hf : byt s 0 = 16) {x : Shp} {k : Nat} (h : holdsOk s ∧ x = ⟨16, 0, 0, 0, 2, wd s 1, wd s 3, wordsL s 6 (wd s 3)⟩ ∧ k = 0 ∨ ¬ holdsOk s ∧ x = noShp ∧ k = 3) : ShpIs s x k := .inr ⟨⟨h0, h1⟩, .inr (.inr (.inr (.inr (.inr (.inr (.inr (.inl ⟨hf, h⟩)))))))⟩
theorem shpIs22 {s : ByteArray} (h0 : 0 < s.size) (h1 : s.size ≤ 253) (hf : byt s 0 = 22) {x : Shp} {k : Nat} (h : s.size = 7 ∧ x = ⟨22, 2, wd s 1, 1, 2, wd s 1, 1, wordsL s 3 2⟩ ∧ k = 0 ∨ ¬ s.size = 7 ∧ x = noShp ∧ k = 3) : ShpIs s x k := .inr ⟨⟨h0, h1⟩, .inr (.inr (.inr (.inr (.inr (.inr (.inr (.inr (.inl ⟨hf, h⟩))))))))⟩
theorem shpIs23 {s : ByteArray} (h0 : 0 < s.size) (h1 : s.size ≤ 253) (hf : byt s 0 = 23) {x : Shp} {k : Nat} (h : exchOk s ∧ x = ⟨23, 2, wd s 1, wd s 3, 2, wd s 5, wd s 7, wordsL s 10 (wd s 7)⟩ ∧ k = 0 ∨ ¬ exchOk s ∧ x = noShp ∧ k = 3) : ShpIs s x k := .inr ⟨⟨h0, h1⟩, .inr (.inr (.inr (.inr (.inr (.inr (.inr (.inr (.inr (.inl ⟨hf, h⟩)))))))))⟩
theorem shpIsNone {s : ByteArray} (h0 : 0 < s.size) (h1 : s.size ≤ 253) (hf : byt s 0 ≠ 1 ∧ byt s 0 ≠ 2 ∧ byt s 0 ≠ 3 ∧ byt s 0 ≠ 4 ∧ byt s 0 ≠ 5 ∧ byt s 0 ≠ 6 ∧ byt s 0 ≠ 15 ∧ byt s 0 ≠ 16 ∧ byt s 0 ≠ 22 ∧ byt s 0 ≠ 23) {x : Shp} {k : Nat} (h : x = noShp ∧ k = 1) : ShpIs s x k := .inr ⟨⟨h0, h1⟩, .inr (.inr (.inr (.inr (.inr (.inr (.inr (.inr (.inr (.inr ⟨hf, h⟩)))))))))⟩
end Pl
set_option maxRecDepth 100000 in
set_option maxHeartbeats 2000000 in
theorem shape_1 (s : ByteArray) (w : World) (h0 : 0 < s.size) (h1 : s.size ≤ 253) (hf : Pl.byt s 0 = 1) :
    Calls Try.prog 18 #[.string s] w fun e w' => ShapeIs w w' e s := by
  have gb := Pl.get_byt s
  have hB : (s.extract 1 s.size).size = s.size - 1 := by simp
  have HB := hideF hB
  clear hB
  have HF := hideF hf
  have l1 : (1 : Int) ≤ s.size := by omega
  have t0 : ((s.size : Int) == 0) = false := by rw [beq_eq_false_iff_ne]; omega
  go_enter Try.func18, Try.ntmps18
  go_wp2_with fail
  obtain ⟨X, hX, hg, hg', hXs, hXb⟩ := two_facts (w := w)
  rw [← hX]
  clear hX
  refine (reading_any 0 2000 (s.extract 1 s.size) X (by rw [HB.out]; omega) (by omega)).mono ?_
  rintro e w1 ⟨x, v, r, rfl, hown, hr, hx, hl, hb1⟩
  have hok : r = true ↔ Pl.rdOk 2000 s := by
    rw [hr]
    unfold Pl.rdOk; simp only [Pl.wd_suffix, HB.out, Nat.reduceAdd]
    omega
  have HOK := hideF hok
  simp only [Pl.wd_suffix, Nat.reduceAdd] at hx
  have HX := hideF hx
  have HL := hideF hl
  clear hr hx hok hl
  rw [hXs] at hown
  obtain ⟨xf, xt, xa, xc, xi, xo, xm, xv⟩ := x
  obtain ⟨ad, c, rfl, _⟩ := own_view hown
  simp only [shV]
  have b1 := (hb1.block w.heap.size (by omega)).trans hg
  have b2 := (hb1.block (w.heap.size + 1) (by omega)).trans hg'
  have hbw := bel_then hXb hb1
  obtain ⟨fz, c0, c1, c2, c3, c4, c5, c6, c7⟩ := cells8 b1
  obtain ⟨fy, d0, d1, d2, d3, d4, d5, d6, d7⟩ := cells8 b2
  have HO := hideF hown
  have HBW := hideF hbw
  clear hg hg' hb1 hXb b1 b2 hown hbw
  cases r with
  | false =>
    go_wp2
    refine bodyPost_ret (v := .tuple #[.agg #[.int .i64 0, .int .i64 0, .int .i64 0, .int .i64 0, .int .i64 0, .int .i64 0, .int .i64 0, .slice none 0 0], .int .u8 3]) (by simp [results, Try.results18, go_sem, c0, c1, c2, c3, c4, c5, c6, c7]) rfl
      ⟨Pl.noShp, .slice none 0 0, 3, rfl, World.ownsRow_nil _ _ _ _, ?_, by simp [Pl.noShp], ?_⟩
    · have := HOK.out
      exact Pl.shpIs1 h0 h1 HF.out (.inr ⟨by simpa using this, rfl, rfl⟩)
    · exact bel8 (bel8 HBW.out (g := w.heap.size + 1) (by omega) _ _ _ _ _ _ _ _) (Nat.le_refl _) _ _ _ _ _ _ _ _
  | true =>
    go_wp2
    refine bodyPost_ret (v := .tuple #[.agg #[.int .i64 1, .int .i64 (xt : Nat), .int .i64 (xa : Nat), .int .i64 (xc : Nat), .int .i64 (xi : Nat), .int .i64 (xo : Nat), .int .i64 (xm : Nat), .slice ad xv.length c], .int .u8 0]) (by simp [results, Try.results18, go_sem, c0, c1, c2, c3, c4, c5, c6, c7]) rfl
      ⟨⟨1, xt, xa, xc, xi, xo, xm, xv⟩, .slice ad xv.length c, 0, rfl, ?_, ?_, HL.out, ?_⟩
    · exact own_base (own8x (own1 (own8x HO.out (g := w.heap.size + 1) (by omega) _ _ _ _ _ _ _ _) (by omega) _) (by omega) _ _ _ _ _ _ _ _) (by omega)
    · have h1' := HOK.out
      have h2' := HX.out (by simp)
      simp only [Pl.Shp.mk.injEq] at h2'
      exact Pl.shpIs1 h0 h1 HF.out (.inl ⟨by simpa using h1', by simp [h2'], rfl⟩)
    · exact bel8 ((bel8 HBW.out (g := w.heap.size + 1) (by omega) _ _ _ _ _ _ _ _).setCell (p := ⟨w.heap.size + 1, 0, none⟩) (by simp) _) (Nat.le_refl _) _ _ _ _ _ _ _ _

set_option maxRecDepth 100000 in
set_option maxHeartbeats 2000000 in
theorem shape_2 (s : ByteArray) (w : World) (h0 : 0 < s.size) (h1 : s.size ≤ 253) (hf : Pl.byt s 0 = 2) :
    Calls Try.prog 18 #[.string s] w fun e w' => ShapeIs w w' e s := by
  have gb := Pl.get_byt s
  have hB : (s.extract 1 s.size).size = s.size - 1 := by simp
  have HB := hideF hB
  clear hB
  have HF := hideF hf
  have l1 : (1 : Int) ≤ s.size := by omega
  have t0 : ((s.size : Int) == 0) = false := by rw [beq_eq_false_iff_ne]; omega
  go_enter Try.func18, Try.ntmps18
  go_wp2_with fail
  obtain ⟨X, hX, hg, hg', hXs, hXb⟩ := two_facts (w := w)
  rw [← hX]
  clear hX
  refine (reading_any 1 2000 (s.extract 1 s.size) X (by rw [HB.out]; omega) (by omega)).mono ?_
  rintro e w1 ⟨x, v, r, rfl, hown, hr, hx, hl, hb1⟩
  have hok : r = true ↔ Pl.rdOk 2000 s := by
    rw [hr]
    unfold Pl.rdOk; simp only [Pl.wd_suffix, HB.out, Nat.reduceAdd]
    omega
  have HOK := hideF hok
  simp only [Pl.wd_suffix, Nat.reduceAdd] at hx
  have HX := hideF hx
  have HL := hideF hl
  clear hr hx hok hl
  rw [hXs] at hown
  obtain ⟨xf, xt, xa, xc, xi, xo, xm, xv⟩ := x
  obtain ⟨ad, c, rfl, _⟩ := own_view hown
  simp only [shV]
  have b1 := (hb1.block w.heap.size (by omega)).trans hg
  have b2 := (hb1.block (w.heap.size + 1) (by omega)).trans hg'
  have hbw := bel_then hXb hb1
  obtain ⟨fz, c0, c1, c2, c3, c4, c5, c6, c7⟩ := cells8 b1
  obtain ⟨fy, d0, d1, d2, d3, d4, d5, d6, d7⟩ := cells8 b2
  have HO := hideF hown
  have HBW := hideF hbw
  clear hg hg' hb1 hXb b1 b2 hown hbw
  cases r with
  | false =>
    go_wp2
    refine bodyPost_ret (v := .tuple #[.agg #[.int .i64 0, .int .i64 0, .int .i64 0, .int .i64 0, .int .i64 0, .int .i64 0, .int .i64 0, .slice none 0 0], .int .u8 3]) (by simp [results, Try.results18, go_sem, c0, c1, c2, c3, c4, c5, c6, c7]) rfl
      ⟨Pl.noShp, .slice none 0 0, 3, rfl, World.ownsRow_nil _ _ _ _, ?_, by simp [Pl.noShp], ?_⟩
    · have := HOK.out
      exact Pl.shpIs2 h0 h1 HF.out (.inr ⟨by simpa using this, rfl, rfl⟩)
    · exact bel8 (bel8 HBW.out (g := w.heap.size + 1) (by omega) _ _ _ _ _ _ _ _) (Nat.le_refl _) _ _ _ _ _ _ _ _
  | true =>
    go_wp2
    refine bodyPost_ret (v := .tuple #[.agg #[.int .i64 2, .int .i64 (xt : Nat), .int .i64 (xa : Nat), .int .i64 (xc : Nat), .int .i64 (xi : Nat), .int .i64 (xo : Nat), .int .i64 (xm : Nat), .slice ad xv.length c], .int .u8 0]) (by simp [results, Try.results18, go_sem, c0, c1, c2, c3, c4, c5, c6, c7]) rfl
      ⟨⟨2, xt, xa, xc, xi, xo, xm, xv⟩, .slice ad xv.length c, 0, rfl, ?_, ?_, HL.out, ?_⟩
    · exact own_base (own8x (own1 (own8x HO.out (g := w.heap.size + 1) (by omega) _ _ _ _ _ _ _ _) (by omega) _) (by omega) _ _ _ _ _ _ _ _) (by omega)
    · have h1' := HOK.out
      have h2' := HX.out (by simp)
      simp only [Pl.Shp.mk.injEq] at h2'
      exact Pl.shpIs2 h0 h1 HF.out (.inl ⟨by simpa using h1', by simp [h2'], rfl⟩)
    · exact bel8 ((bel8 HBW.out (g := w.heap.size + 1) (by omega) _ _ _ _ _ _ _ _).setCell (p := ⟨w.heap.size + 1, 0, none⟩) (by simp) _) (Nat.le_refl _) _ _ _ _ _ _ _ _

set_option maxRecDepth 100000 in
set_option maxHeartbeats 2000000 in
theorem shape_3 (s : ByteArray) (w : World) (h0 : 0 < s.size) (h1 : s.size ≤ 253) (hf : Pl.byt s 0 = 3) :
    Calls Try.prog 18 #[.string s] w fun e w' => ShapeIs w w' e s := by
  have gb := Pl.get_byt s
  have hB : (s.extract 1 s.size).size = s.size - 1 := by simp
  have HB := hideF hB
  clear hB
  have HF := hideF hf
  have l1 : (1 : Int) ≤ s.size := by omega
  have t0 : ((s.size : Int) == 0) = false := by rw [beq_eq_false_iff_ne]; omega
  go_enter Try.func18, Try.ntmps18
  go_wp2_with fail
  obtain ⟨X, hX, hg, hg', hXs, hXb⟩ := two_facts (w := w)
  rw [← hX]
  clear hX
  refine (reading_any 2 125 (s.extract 1 s.size) X (by rw [HB.out]; omega) (by omega)).mono ?_
  rintro e w1 ⟨x, v, r, rfl, hown, hr, hx, hl, hb1⟩
  have hok : r = true ↔ Pl.rdOk 125 s := by
    rw [hr]
    unfold Pl.rdOk; simp only [Pl.wd_suffix, HB.out, Nat.reduceAdd]
    omega
  have HOK := hideF hok
  simp only [Pl.wd_suffix, Nat.reduceAdd] at hx
  have HX := hideF hx
  have HL := hideF hl
  clear hr hx hok hl
  rw [hXs] at hown
  obtain ⟨xf, xt, xa, xc, xi, xo, xm, xv⟩ := x
  obtain ⟨ad, c, rfl, _⟩ := own_view hown
  simp only [shV]
  have b1 := (hb1.block w.heap.size (by omega)).trans hg
  have b2 := (hb1.block (w.heap.size + 1) (by omega)).trans hg'
  have hbw := bel_then hXb hb1
  obtain ⟨fz, c0, c1, c2, c3, c4, c5, c6, c7⟩ := cells8 b1
  obtain ⟨fy, d0, d1, d2, d3, d4, d5, d6, d7⟩ := cells8 b2
  have HO := hideF hown
  have HBW := hideF hbw
  clear hg hg' hb1 hXb b1 b2 hown hbw
  cases r with
  | false =>
    go_wp2
    refine bodyPost_ret (v := .tuple #[.agg #[.int .i64 0, .int .i64 0, .int .i64 0, .int .i64 0, .int .i64 0, .int .i64 0, .int .i64 0, .slice none 0 0], .int .u8 3]) (by simp [results, Try.results18, go_sem, c0, c1, c2, c3, c4, c5, c6, c7]) rfl
      ⟨Pl.noShp, .slice none 0 0, 3, rfl, World.ownsRow_nil _ _ _ _, ?_, by simp [Pl.noShp], ?_⟩
    · have := HOK.out
      exact Pl.shpIs3 h0 h1 HF.out (.inr ⟨by simpa using this, rfl, rfl⟩)
    · exact bel8 (bel8 HBW.out (g := w.heap.size + 1) (by omega) _ _ _ _ _ _ _ _) (Nat.le_refl _) _ _ _ _ _ _ _ _
  | true =>
    go_wp2
    refine bodyPost_ret (v := .tuple #[.agg #[.int .i64 3, .int .i64 (xt : Nat), .int .i64 (xa : Nat), .int .i64 (xc : Nat), .int .i64 (xi : Nat), .int .i64 (xo : Nat), .int .i64 (xm : Nat), .slice ad xv.length c], .int .u8 0]) (by simp [results, Try.results18, go_sem, c0, c1, c2, c3, c4, c5, c6, c7]) rfl
      ⟨⟨3, xt, xa, xc, xi, xo, xm, xv⟩, .slice ad xv.length c, 0, rfl, ?_, ?_, HL.out, ?_⟩
    · exact own_base (own8x (own1 (own8x HO.out (g := w.heap.size + 1) (by omega) _ _ _ _ _ _ _ _) (by omega) _) (by omega) _ _ _ _ _ _ _ _) (by omega)
    · have h1' := HOK.out
      have h2' := HX.out (by simp)
      simp only [Pl.Shp.mk.injEq] at h2'
      exact Pl.shpIs3 h0 h1 HF.out (.inl ⟨by simpa using h1', by simp [h2'], rfl⟩)
    · exact bel8 ((bel8 HBW.out (g := w.heap.size + 1) (by omega) _ _ _ _ _ _ _ _).setCell (p := ⟨w.heap.size + 1, 0, none⟩) (by simp) _) (Nat.le_refl _) _ _ _ _ _ _ _ _

set_option maxRecDepth 100000 in
set_option maxHeartbeats 2000000 in
theorem shape_4 (s : ByteArray) (w : World) (h0 : 0 < s.size) (h1 : s.size ≤ 253) (hf : Pl.byt s 0 = 4) :
    Calls Try.prog 18 #[.string s] w fun e w' => ShapeIs w w' e s := by
  have gb := Pl.get_byt s
  have hB : (s.extract 1 s.size).size = s.size - 1 := by simp
  have HB := hideF hB
  clear hB
  have HF := hideF hf
  have l1 : (1 : Int) ≤ s.size := by omega
  have t0 : ((s.size : Int) == 0) = false := by rw [beq_eq_false_iff_ne]; omega
  go_enter Try.func18, Try.ntmps18
  go_wp2_with fail
  obtain ⟨X, hX, hg, hg', hXs, hXb⟩ := two_facts (w := w)
  rw [← hX]
  clear hX
  refine (reading_any 3 125 (s.extract 1 s.size) X (by rw [HB.out]; omega) (by omega)).mono ?_
  rintro e w1 ⟨x, v, r, rfl, hown, hr, hx, hl, hb1⟩
  have hok : r = true ↔ Pl.rdOk 125 s := by
    rw [hr]
    unfold Pl.rdOk; simp only [Pl.wd_suffix, HB.out, Nat.reduceAdd]
    omega
  have HOK := hideF hok
  simp only [Pl.wd_suffix, Nat.reduceAdd] at hx
  have HX := hideF hx
  have HL := hideF hl
  clear hr hx hok hl
  rw [hXs] at hown
  obtain ⟨xf, xt, xa, xc, xi, xo, xm, xv⟩ := x
  obtain ⟨ad, c, rfl, _⟩ := own_view hown
  simp only [shV]
  have b1 := (hb1.block w.heap.size (by omega)).trans hg
  have b2 := (hb1.block (w.heap.size + 1) (by omega)).trans hg'
  have hbw := bel_then hXb hb1
  obtain ⟨fz, c0, c1, c2, c3, c4, c5, c6, c7⟩ := cells8 b1
  obtain ⟨fy, d0, d1, d2, d3, d4, d5, d6, d7⟩ := cells8 b2
  have HO := hideF hown
  have HBW := hideF hbw
  clear hg hg' hb1 hXb b1 b2 hown hbw
  cases r with
  | false =>
    go_wp2
    refine bodyPost_ret (v := .tuple #[.agg #[.int .i64 0, .int .i64 0, .int .i64 0, .int .i64 0, .int .i64 0, .int .i64 0, .int .i64 0, .slice none 0 0], .int .u8 3]) (by simp [results, Try.results18, go_sem, c0, c1, c2, c3, c4, c5, c6, c7]) rfl
      ⟨Pl.noShp, .slice none 0 0, 3, rfl, World.ownsRow_nil _ _ _ _, ?_, by simp [Pl.noShp], ?_⟩
    · have := HOK.out
      exact Pl.shpIs4 h0 h1 HF.out (.inr ⟨by simpa using this, rfl, rfl⟩)
    · exact bel8 (bel8 HBW.out (g := w.heap.size + 1) (by omega) _ _ _ _ _ _ _ _) (Nat.le_refl _) _ _ _ _ _ _ _ _
  | true =>
    go_wp2
    refine bodyPost_ret (v := .tuple #[.agg #[.int .i64 4, .int .i64 (xt : Nat), .int .i64 (xa : Nat), .int .i64 (xc : Nat), .int .i64 (xi : Nat), .int .i64 (xo : Nat), .int .i64 (xm : Nat), .slice ad xv.length c], .int .u8 0]) (by simp [results, Try.results18, go_sem, c0, c1, c2, c3, c4, c5, c6, c7]) rfl
      ⟨⟨4, xt, xa, xc, xi, xo, xm, xv⟩, .slice ad xv.length c, 0, rfl, ?_, ?_, HL.out, ?_⟩
    · exact own_base (own8x (own1 (own8x HO.out (g := w.heap.size + 1) (by omega) _ _ _ _ _ _ _ _) (by omega) _) (by omega) _ _ _ _ _ _ _ _) (by omega)
    · have h1' := HOK.out
      have h2' := HX.out (by simp)
      simp only [Pl.Shp.mk.injEq] at h2'
      exact Pl.shpIs4 h0 h1 HF.out (.inl ⟨by simpa using h1', by simp [h2'], rfl⟩)
    · exact bel8 ((bel8 HBW.out (g := w.heap.size + 1) (by omega) _ _ _ _ _ _ _ _).setCell (p := ⟨w.heap.size + 1, 0, none⟩) (by simp) _) (Nat.le_refl _) _ _ _ _ _ _ _ _

set_option maxRecDepth 100000 in
set_option maxHeartbeats 2000000 in
theorem shape_5 (s : ByteArray) (w : World) (h0 : 0 < s.size) (h1 : s.size ≤ 253) (hf : Pl.byt s 0 = 5) :
    Calls Try.prog 18 #[.string s] w fun e w' => ShapeIs w w' e s := by
  have gb := Pl.get_byt s
  have hB : (s.extract 1 s.size).size = s.size - 1 := by simp
  have HB := hideF hB
  clear hB
  have HF := hideF hf
  have l1 : (1 : Int) ≤ s.size := by omega
  have t0 : ((s.size : Int) == 0) = false := by rw [beq_eq_false_iff_ne]; omega
  go_enter Try.func18, Try.ntmps18
  go_wp2_with fail
  obtain ⟨X, hX, hg, hg', hXs, hXb⟩ := two_facts (w := w)
  rw [← hX]
  clear hX
  refine (settingCoil_any (s.extract 1 s.size) X (by rw [HB.out]; omega)).mono ?_
  rintro e w1 ⟨x, v, r, rfl, hown, hr, hx, hl, hb1⟩
  have hok : r = true ↔ Pl.coilOk s := by
    rw [hr]
    unfold Pl.coilOk; simp only [Pl.wd_suffix, HB.out, Nat.reduceAdd]
    omega
  have HOK := hideF hok
  simp only [Pl.wd_suffix, Nat.reduceAdd] at hx
  have HX := hideF hx
  have HL := hideF hl
  clear hr hx hok hl
  rw [hXs] at hown
  obtain ⟨xf, xt, xa, xc, xi, xo, xm, xv⟩ := x
  obtain ⟨ad, c, rfl, _⟩ := own_view hown
  simp only [shV]
  have b1 := (hb1.block w.heap.size (by omega)).trans hg
  have b2 := (hb1.block (w.heap.size + 1) (by omega)).trans hg'
  have hbw := bel_then hXb hb1
  obtain ⟨fz, c0, c1, c2, c3, c4, c5, c6, c7⟩ := cells8 b1
  obtain ⟨fy, d0, d1, d2, d3, d4, d5, d6, d7⟩ := cells8 b2
  have HO := hideF hown
  have HBW := hideF hbw
  clear hg hg' hb1 hXb b1 b2 hown hbw
  cases r with
  | false =>
    go_wp2
    refine bodyPost_ret (v := .tuple #[.agg #[.int .i64 0, .int .i64 0, .int .i64 0, .int .i64 0, .int .i64 0, .int .i64 0, .int .i64 0, .slice none 0 0], .int .u8 3]) (by simp [results, Try.results18, go_sem, c0, c1, c2, c3, c4, c5, c6, c7]) rfl
      ⟨Pl.noShp, .slice none 0 0, 3, rfl, World.ownsRow_nil _ _ _ _, ?_, by simp [Pl.noShp], ?_⟩
    · have := HOK.out
      exact Pl.shpIs5 h0 h1 HF.out (.inr ⟨by simpa using this, rfl, rfl⟩)
    · exact bel8 (bel8 HBW.out (g := w.heap.size + 1) (by omega) _ _ _ _ _ _ _ _) (Nat.le_refl _) _ _ _ _ _ _ _ _
  | true =>
    go_wp2
    refine bodyPost_ret (v := .tuple #[.agg #[.int .i64 5, .int .i64 (xt : Nat), .int .i64 (xa : Nat), .int .i64 (xc : Nat), .int .i64 (xi : Nat), .int .i64 (xo : Nat), .int .i64 (xm : Nat), .slice ad xv.length c], .int .u8 0]) (by simp [results, Try.results18, go_sem, c0, c1, c2, c3, c4, c5, c6, c7]) rfl
      ⟨⟨5, xt, xa, xc, xi, xo, xm, xv⟩, .slice ad xv.length c, 0, rfl, ?_, ?_, HL.out, ?_⟩
    · exact own_base (own8x (own1 (own8x HO.out (g := w.heap.size + 1) (by omega) _ _ _ _ _ _ _ _) (by omega) _) (by omega) _ _ _ _ _ _ _ _) (by omega)
    · have h1' := HOK.out
      have h2' := HX.out (by simp)
      simp only [Pl.Shp.mk.injEq] at h2'
      exact Pl.shpIs5 h0 h1 HF.out (.inl ⟨by simpa using h1', by simp [h2'], rfl⟩)
    · exact bel8 ((bel8 HBW.out (g := w.heap.size + 1) (by omega) _ _ _ _ _ _ _ _).setCell (p := ⟨w.heap.size + 1, 0, none⟩) (by simp) _) (Nat.le_refl _) _ _ _ _ _ _ _ _

set_option maxRecDepth 100000 in
set_option maxHeartbeats 2000000 in
theorem shape_6 (s : ByteArray) (w : World) (h0 : 0 < s.size) (h1 : s.size ≤ 253) (hf : Pl.byt s 0 = 6) :
    Calls Try.prog 18 #[.string s] w fun e w' => ShapeIs w w' e s := by
  have gb := Pl.get_byt s
  have hB : (s.extract 1 s.size).size = s.size - 1 := by simp
  have HB := hideF hB
  clear hB
  have HF := hideF hf
  have l1 : (1 : Int) ≤ s.size := by omega
  have t0 : ((s.size : Int) == 0) = false := by rw [beq_eq_false_iff_ne]; omega
  go_enter Try.func18, Try.ntmps18
  go_wp2_with fail
  obtain ⟨X, hX, hg, hg', hXs, hXb⟩ := two_facts (w := w)
  rw [← hX]
  clear hX
  refine (settingHolder_any (s.extract 1 s.size) X (by rw [HB.out]; omega)).mono ?_
  rintro e w1 ⟨x, v, r, rfl, hown, hr, hx, hl, hb1⟩
  have hok : r = true ↔ s.size = 5 := by
    rw [hr]
    simp only [HB.out]
    omega
  have HOK := hideF hok
  simp only [Pl.wd_suffix, Nat.reduceAdd] at hx
  have HX := hideF hx
  have HL := hideF hl
  clear hr hx hok hl
  rw [hXs] at hown
  obtain ⟨xf, xt, xa, xc, xi, xo, xm, xv⟩ := x
  obtain ⟨ad, c, rfl, _⟩ := own_view hown
  simp only [shV]
  have b1 := (hb1.block w.heap.size (by omega)).trans hg
  have b2 := (hb1.block (w.heap.size + 1) (by omega)).trans hg'
  have hbw := bel_then hXb hb1
  obtain ⟨fz, c0, c1, c2, c3, c4, c5, c6, c7⟩ := cells8 b1
  obtain ⟨fy, d0, d1, d2, d3, d4, d5, d6, d7⟩ := cells8 b2
  have HO := hideF hown
  have HBW := hideF hbw
  clear hg hg' hb1 hXb b1 b2 hown hbw
  cases r with
  | false =>
    go_wp2
    refine bodyPost_ret (v := .tuple #[.agg #[.int .i64 0, .int .i64 0, .int .i64 0, .int .i64 0, .int .i64 0, .int .i64 0, .int .i64 0, .slice none 0 0], .int .u8 3]) (by simp [results, Try.results18, go_sem, c0, c1, c2, c3, c4, c5, c6, c7]) rfl
      ⟨Pl.noShp, .slice none 0 0, 3, rfl, World.ownsRow_nil _ _ _ _, ?_, by simp [Pl.noShp], ?_⟩
    · have := HOK.out
      exact Pl.shpIs6 h0 h1 HF.out (.inr ⟨by simpa using this, rfl, rfl⟩)
    · exact bel8 (bel8 HBW.out (g := w.heap.size + 1) (by omega) _ _ _ _ _ _ _ _) (Nat.le_refl _) _ _ _ _ _ _ _ _
  | true =>
    go_wp2
    refine bodyPost_ret (v := .tuple #[.agg #[.int .i64 6, .int .i64 (xt : Nat), .int .i64 (xa : Nat), .int .i64 (xc : Nat), .int .i64 (xi : Nat), .int .i64 (xo : Nat), .int .i64 (xm : Nat), .slice ad xv.length c], .int .u8 0]) (by simp [results, Try.results18, go_sem, c0, c1, c2, c3, c4, c5, c6, c7]) rfl
      ⟨⟨6, xt, xa, xc, xi, xo, xm, xv⟩, .slice ad xv.length c, 0, rfl, ?_, ?_, HL.out, ?_⟩
    · exact own_base (own8x (own1 (own8x HO.out (g := w.heap.size + 1) (by omega) _ _ _ _ _ _ _ _) (by omega) _) (by omega) _ _ _ _ _ _ _ _) (by omega)
    · have h1' := HOK.out
      have h2' := HX.out (by simp)
      simp only [Pl.Shp.mk.injEq] at h2'
      exact Pl.shpIs6 h0 h1 HF.out (.inl ⟨by simpa using h1', by simp [h2'], rfl⟩)
    · exact bel8 ((bel8 HBW.out (g := w.heap.size + 1) (by omega) _ _ _ _ _ _ _ _).setCell (p := ⟨w.heap.size + 1, 0, none⟩) (by simp) _) (Nat.le_refl _) _ _ _ _ _ _ _ _

set_option maxRecDepth 100000 in
set_option maxHeartbeats 2000000 in
theorem shape_15 (s : ByteArray) (w : World) (h0 : 0 < s.size) (h1 : s.size ≤ 253) (hf : Pl.byt s 0 = 15) :
    Calls Try.prog 18 #[.string s] w fun e w' => ShapeIs w w' e s := by
  have gb := Pl.get_byt s
  have hB : (s.extract 1 s.size).size = s.size - 1 := by simp
  have HB := hideF hB
  clear hB
  have HF := hideF hf
  have l1 : (1 : Int) ≤ s.size := by omega
  have t0 : ((s.size : Int) == 0) = false := by rw [beq_eq_false_iff_ne]; omega
  go_enter Try.func18, Try.ntmps18
  go_wp2_with fail
  obtain ⟨X, hX, hg, hg', hXs, hXb⟩ := two_facts (w := w)
  rw [← hX]
  clear hX
  refine (settingCoils_any (s.extract 1 s.size) X (by rw [HB.out]; omega)).mono ?_
  rintro e w1 ⟨x, v, r, rfl, hown, hr, hx, hl, hb1⟩
  have hok : r = true ↔ Pl.coilsOk s := by
    rw [hr]
    unfold Pl.coilsOk; simp only [Pl.wd_suffix, Pl.byt_suffix, HB.out, Nat.reduceAdd]
    omega
  have HOK := hideF hok
  simp only [Pl.wd_suffix, Pl.bitsL_suffix, Nat.reduceAdd] at hx
  have HX := hideF hx
  have HL := hideF hl
  clear hr hx hok hl
  rw [hXs] at hown
  obtain ⟨xf, xt, xa, xc, xi, xo, xm, xv⟩ := x
  obtain ⟨ad, c, rfl, _⟩ := own_view hown
  simp only [shV]
  have b1 := (hb1.block w.heap.size (by omega)).trans hg
  have b2 := (hb1.block (w.heap.size + 1) (by omega)).trans hg'
  have hbw := bel_then hXb hb1
  obtain ⟨fz, c0, c1, c2, c3, c4, c5, c6, c7⟩ := cells8 b1
  obtain ⟨fy, d0, d1, d2, d3, d4, d5, d6, d7⟩ := cells8 b2
  have HO := hideF hown
  have HBW := hideF hbw
  clear hg hg' hb1 hXb b1 b2 hown hbw
  cases r with
  | false =>
    go_wp2
    refine bodyPost_ret (v := .tuple #[.agg #[.int .i64 0, .int .i64 0, .int .i64 0, .int .i64 0, .int .i64 0, .int .i64 0, .int .i64 0, .slice none 0 0], .int .u8 3]) (by simp [results, Try.results18, go_sem, c0, c1, c2, c3, c4, c5, c6, c7]) rfl
      ⟨Pl.noShp, .slice none 0 0, 3, rfl, World.ownsRow_nil _ _ _ _, ?_, by simp [Pl.noShp], ?_⟩
    · have := HOK.out
      exact Pl.shpIs15 h0 h1 HF.out (.inr ⟨by simpa using this, rfl, rfl⟩)
    · exact bel8 (bel8 HBW.out (g := w.heap.size + 1) (by omega) _ _ _ _ _ _ _ _) (Nat.le_refl _) _ _ _ _ _ _ _ _
  | true =>
    go_wp2
    refine bodyPost_ret (v := .tuple #[.agg #[.int .i64 15, .int .i64 (xt : Nat), .int .i64 (xa : Nat), .int .i64 (xc : Nat), .int .i64 (xi : Nat), .int .i64 (xo : Nat), .int .i64 (xm : Nat), .slice ad xv.length c], .int .u8 0]) (by simp [results, Try.results18, go_sem, c0, c1, c2, c3, c4, c5, c6, c7]) rfl
      ⟨⟨15, xt, xa, xc, xi, xo, xm, xv⟩, .slice ad xv.length c, 0, rfl, ?_, ?_, HL.out, ?_⟩
    · exact own_base (own8x (own1 (own8x HO.out (g := w.heap.size + 1) (by omega) _ _ _ _ _ _ _ _) (by omega) _) (by omega) _ _ _ _ _ _ _ _) (by omega)
    · have h1' := HOK.out
      have h2' := HX.out (by simp)
      simp only [Pl.Shp.mk.injEq] at h2'
      exact Pl.shpIs15 h0 h1 HF.out (.inl ⟨by simpa using h1', by simp [h2'], rfl⟩)
    · exact bel8 ((bel8 HBW.out (g := w.heap.size + 1) (by omega) _ _ _ _ _ _ _ _).setCell (p := ⟨w.heap.size + 1, 0, none⟩) (by simp) _) (Nat.le_refl _) _ _ _ _ _ _ _ _

set_option maxRecDepth 100000 in
set_option maxHeartbeats 2000000 in
theorem shape_16 (s : ByteArray) (w : World) (h0 : 0 < s.size) (h1 : s.size ≤ 253) (hf : Pl.byt s 0 = 16) :
    Calls Try.prog 18 #[.string s] w fun e w' => ShapeIs w w' e s := by
  have gb := Pl.get_byt s
  have hB : (s.extract 1 s.size).size = s.size - 1 := by simp
  have HB := hideF hB
  clear hB
  have HF := hideF hf
  have l1 : (1 : Int) ≤ s.size := by omega
  have t0 : ((s.size : Int) == 0) = false := by rw [beq_eq_false_iff_ne]; omega
  go_enter Try.func18, Try.ntmps18
  go_wp2_with fail
  obtain ⟨X, hX, hg, hg', hXs, hXb⟩ := two_facts (w := w)
  rw [← hX]
  clear hX
  refine (settingHolders_any 123 (s.extract 1 s.size) X (by rw [HB.out]; omega) (by omega)).mono ?_
  rintro e w1 ⟨x, v, r, rfl, hown, hr, hx, hl, hb1⟩
  have hok : r = true ↔ Pl.holdsOk s := by
    rw [hr]
    unfold Pl.holdsOk; simp only [Pl.wd_suffix, Pl.byt_suffix, HB.out, Nat.reduceAdd]
    omega
  have HOK := hideF hok
  simp only [Pl.wd_suffix, Pl.wordsL_suffix, Nat.reduceAdd] at hx
  have HX := hideF hx
  have HL := hideF hl
  clear hr hx hok hl
  rw [hXs] at hown
  obtain ⟨xf, xt, xa, xc, xi, xo, xm, xv⟩ := x
  obtain ⟨ad, c, rfl, _⟩ := own_view hown
  simp only [shV]
  have b1 := (hb1.block w.heap.size (by omega)).trans hg
  have b2 := (hb1.block (w.heap.size + 1) (by omega)).trans hg'
  have hbw := bel_then hXb hb1
  obtain ⟨fz, c0, c1, c2, c3, c4, c5, c6, c7⟩ := cells8 b1
  obtain ⟨fy, d0, d1, d2, d3, d4, d5, d6, d7⟩ := cells8 b2
  have HO := hideF hown
  have HBW := hideF hbw
  clear hg hg' hb1 hXb b1 b2 hown hbw
  cases r with
  | false =>
    go_wp2
    refine bodyPost_ret (v := .tuple #[.agg #[.int .i64 0, .int .i64 0, .int .i64 0, .int .i64 0, .int .i64 0, .int .i64 0, .int .i64 0, .slice none 0 0], .int .u8 3]) (by simp [results, Try.results18, go_sem, c0, c1, c2, c3, c4, c5, c6, c7]) rfl
      ⟨Pl.noShp, .slice none 0 0, 3, rfl, World.ownsRow_nil _ _ _ _, ?_, by simp [Pl.noShp], ?_⟩
    · have := HOK.out
      exact Pl.shpIs16 h0 h1 HF.out (.inr ⟨by simpa using this, rfl, rfl⟩)
    · exact bel8 (bel8 HBW.out (g := w.heap.size + 1) (by omega) _ _ _ _ _ _ _ _) (Nat.le_refl _) _ _ _ _ _ _ _ _
  | true =>
    go_wp2
    refine bodyPost_ret (v := .tuple #[.agg #[.int .i64 16, .int .i64 (xt : Nat), .int .i64 (xa : Nat), .int .i64 (xc : Nat), .int .i64 (xi : Nat), .int .i64 (xo : Nat), .int .i64 (xm : Nat), .slice ad xv.length c], .int .u8 0]) (by simp [results, Try.results18, go_sem, c0, c1, c2, c3, c4, c5, c6, c7]) rfl
      ⟨⟨16, xt, xa, xc, xi, xo, xm, xv⟩, .slice ad xv.length c, 0, rfl, ?_, ?_, HL.out, ?_⟩
    · exact own_base (own8x (own1 (own8x HO.out (g := w.heap.size + 1) (by omega) _ _ _ _ _ _ _ _) (by omega) _) (by omega) _ _ _ _ _ _ _ _) (by omega)
    · have h1' := HOK.out
      have h2' := HX.out (by simp)
      simp only [Pl.Shp.mk.injEq] at h2'
      exact Pl.shpIs16 h0 h1 HF.out (.inl ⟨by simpa using h1', by simp [h2'], rfl⟩)
    · exact bel8 ((bel8 HBW.out (g := w.heap.size + 1) (by omega) _ _ _ _ _ _ _ _).setCell (p := ⟨w.heap.size + 1, 0, none⟩) (by simp) _) (Nat.le_refl _) _ _ _ _ _ _ _ _

set_option maxRecDepth 100000 in
set_option maxHeartbeats 2000000 in
theorem shape_22 (s : ByteArray) (w : World) (h0 : 0 < s.size) (h1 : s.size ≤ 253) (hf : Pl.byt s 0 = 22) :
    Calls Try.prog 18 #[.string s] w fun e w' => ShapeIs w w' e s := by
  have gb := Pl.get_byt s
  have hB : (s.extract 1 s.size).size = s.size - 1 := by simp
  have HB := hideF hB
  clear hB
  have HF := hideF hf
  have l1 : (1 : Int) ≤ s.size := by omega
  have t0 : ((s.size : Int) == 0) = false := by rw [beq_eq_false_iff_ne]; omega
  go_enter Try.func18, Try.ntmps18
  go_wp2_with fail
  obtain ⟨X, hX, hg, hg', hXs, hXb⟩ := two_facts (w := w)
  rw [← hX]
  clear hX
  refine (masking_any (s.extract 1 s.size) X (by rw [HB.out]; omega)).mono ?_
  rintro e w1 ⟨x, v, r, rfl, hown, hr, hx, hl, hb1⟩
  have hok : r = true ↔ s.size = 7 := by
    rw [hr]
    simp only [HB.out]
    omega
  have HOK := hideF hok
  simp only [Pl.wd_suffix, Pl.wordsL_suffix, Nat.reduceAdd] at hx
  have HX := hideF hx
  have HL := hideF hl
  clear hr hx hok hl
  rw [hXs] at hown
  obtain ⟨xf, xt, xa, xc, xi, xo, xm, xv⟩ := x
  obtain ⟨ad, c, rfl, _⟩ := own_view hown
  simp only [shV]
  have b1 := (hb1.block w.heap.size (by omega)).trans hg
  have b2 := (hb1.block (w.heap.size + 1) (by omega)).trans hg'
  have hbw := bel_then hXb hb1
  obtain ⟨fz, c0, c1, c2, c3, c4, c5, c6, c7⟩ := cells8 b1
  obtain ⟨fy, d0, d1, d2, d3, d4, d5, d6, d7⟩ := cells8 b2
  have HO := hideF hown
  have HBW := hideF hbw
  clear hg hg' hb1 hXb b1 b2 hown hbw
  cases r with
  | false =>
    go_wp2
    refine bodyPost_ret (v := .tuple #[.agg #[.int .i64 0, .int .i64 0, .int .i64 0, .int .i64 0, .int .i64 0, .int .i64 0, .int .i64 0, .slice none 0 0], .int .u8 3]) (by simp [results, Try.results18, go_sem, c0, c1, c2, c3, c4, c5, c6, c7]) rfl
      ⟨Pl.noShp, .slice none 0 0, 3, rfl, World.ownsRow_nil _ _ _ _, ?_, by simp [Pl.noShp], ?_⟩
    · have := HOK.out
      exact Pl.shpIs22 h0 h1 HF.out (.inr ⟨by simpa using this, rfl, rfl⟩)
    · exact bel8 (bel8 HBW.out (g := w.heap.size + 1) (by omega) _ _ _ _ _ _ _ _) (Nat.le_refl _) _ _ _ _ _ _ _ _
  | true =>
    go_wp2
    refine bodyPost_ret (v := .tuple #[.agg #[.int .i64 22, .int .i64 (xt : Nat), .int .i64 (xa : Nat), .int .i64 (xc : Nat), .int .i64 (xi : Nat), .int .i64 (xo : Nat), .int .i64 (xm : Nat), .slice ad xv.length c], .int .u8 0]) (by simp [results, Try.results18, go_sem, c0, c1, c2, c3, c4, c5, c6, c7]) rfl
      ⟨⟨22, xt, xa, xc, xi, xo, xm, xv⟩, .slice ad xv.length c, 0, rfl, ?_, ?_, HL.out, ?_⟩
    · exact own_base (own8x (own1 (own8x HO.out (g := w.heap.size + 1) (by omega) _ _ _ _ _ _ _ _) (by omega) _) (by omega) _ _ _ _ _ _ _ _) (by omega)
    · have h1' := HOK.out
      have h2' := HX.out (by simp)
      simp only [Pl.Shp.mk.injEq] at h2'
      exact Pl.shpIs22 h0 h1 HF.out (.inl ⟨by simpa using h1', by simp [h2'], rfl⟩)
    · exact bel8 ((bel8 HBW.out (g := w.heap.size + 1) (by omega) _ _ _ _ _ _ _ _).setCell (p := ⟨w.heap.size + 1, 0, none⟩) (by simp) _) (Nat.le_refl _) _ _ _ _ _ _ _ _

set_option maxRecDepth 100000 in
set_option maxHeartbeats 2000000 in
theorem shape_23 (s : ByteArray) (w : World) (h0 : 0 < s.size) (h1 : s.size ≤ 253) (hf : Pl.byt s 0 = 23) :
    Calls Try.prog 18 #[.string s] w fun e w' => ShapeIs w w' e s := by
  have gb := Pl.get_byt s
  have hB : (s.extract 1 s.size).size = s.size - 1 := by simp
  have HB := hideF hB
  clear hB
  have HF := hideF hf
  have l1 : (1 : Int) ≤ s.size := by omega
  have t0 : ((s.size : Int) == 0) = false := by rw [beq_eq_false_iff_ne]; omega
  go_enter Try.func18, Try.ntmps18
  go_wp2_with fail
  obtain ⟨X, hX, hg, hg', hXs, hXb⟩ := two_facts (w := w)
  rw [← hX]
  clear hX
  refine (exchanging_any (s.extract 1 s.size) X (by rw [HB.out]; omega)).mono ?_
  rintro e w1 ⟨x, v, r, rfl, hown, hr, hx, hl, hb1⟩
  have hok : r = true ↔ Pl.exchOk s := by
    rw [hr]
    unfold Pl.exchOk; simp only [Pl.wd_suffix, Pl.byt_suffix, HB.out, Nat.reduceAdd]
    omega
  have HOK := hideF hok
  simp only [Pl.wd_suffix, Pl.wordsL_suffix, Nat.reduceAdd] at hx
  have HX := hideF hx
  have HL := hideF hl
  clear hr hx hok hl
  rw [hXs] at hown
  obtain ⟨xf, xt, xa, xc, xi, xo, xm, xv⟩ := x
  obtain ⟨ad, c, rfl, _⟩ := own_view hown
  simp only [shV]
  have b1 := (hb1.block w.heap.size (by omega)).trans hg
  have b2 := (hb1.block (w.heap.size + 1) (by omega)).trans hg'
  have hbw := bel_then hXb hb1
  obtain ⟨fz, c0, c1, c2, c3, c4, c5, c6, c7⟩ := cells8 b1
  obtain ⟨fy, d0, d1, d2, d3, d4, d5, d6, d7⟩ := cells8 b2
  have HO := hideF hown
  have HBW := hideF hbw
  clear hg hg' hb1 hXb b1 b2 hown hbw
  cases r with
  | false =>
    go_wp2
    refine bodyPost_ret (v := .tuple #[.agg #[.int .i64 0, .int .i64 0, .int .i64 0, .int .i64 0, .int .i64 0, .int .i64 0, .int .i64 0, .slice none 0 0], .int .u8 3]) (by simp [results, Try.results18, go_sem, c0, c1, c2, c3, c4, c5, c6, c7]) rfl
      ⟨Pl.noShp, .slice none 0 0, 3, rfl, World.ownsRow_nil _ _ _ _, ?_, by simp [Pl.noShp], ?_⟩
    · have := HOK.out
      exact Pl.shpIs23 h0 h1 HF.out (.inr ⟨by simpa using this, rfl, rfl⟩)
    · exact bel8 (bel8 HBW.out (g := w.heap.size + 1) (by omega) _ _ _ _ _ _ _ _) (Nat.le_refl _) _ _ _ _ _ _ _ _
  | true =>
    go_wp2
    refine bodyPost_ret (v := .tuple #[.agg #[.int .i64 23, .int .i64 (xt : Nat), .int .i64 (xa : Nat), .int .i64 (xc : Nat), .int .i64 (xi : Nat), .int .i64 (xo : Nat), .int .i64 (xm : Nat), .slice ad xv.length c], .int .u8 0]) (by simp [results, Try.results18, go_sem, c0, c1, c2, c3, c4, c5, c6, c7]) rfl
      ⟨⟨23, xt, xa, xc, xi, xo, xm, xv⟩, .slice ad xv.length c, 0, rfl, ?_, ?_, HL.out, ?_⟩
    · exact own_base (own8x (own1 (own8x HO.out (g := w.heap.size + 1) (by omega) _ _ _ _ _ _ _ _) (by omega) _) (by omega) _ _ _ _ _ _ _ _) (by omega)
    · have h1' := HOK.out
      have h2' := HX.out (by simp)
      simp only [Pl.Shp.mk.injEq] at h2'
      exact Pl.shpIs23 h0 h1 HF.out (.inl ⟨by simpa using h1', by simp [h2'], rfl⟩)
    · exact bel8 ((bel8 HBW.out (g := w.heap.size + 1) (by omega) _ _ _ _ _ _ _ _).setCell (p := ⟨w.heap.size + 1, 0, none⟩) (by simp) _) (Nat.le_refl _) _ _ _ _ _ _ _ _

set_option maxRecDepth 100000 in
set_option maxHeartbeats 2000000 in
theorem shape_none (s : ByteArray) (w : World) (h0 : 0 < s.size) (h1 : s.size ≤ 253) (hf : Pl.byt s 0 ≠ 1 ∧ Pl.byt s 0 ≠ 2 ∧ Pl.byt s 0 ≠ 3 ∧ Pl.byt s 0 ≠ 4 ∧ Pl.byt s 0 ≠ 5 ∧ Pl.byt s 0 ≠ 6 ∧ Pl.byt s 0 ≠ 15 ∧ Pl.byt s 0 ≠ 16 ∧ Pl.byt s 0 ≠ 22 ∧ Pl.byt s 0 ≠ 23) :
    Calls Try.prog 18 #[.string s] w fun e w' => ShapeIs w w' e s := by
  have gb := Pl.get_byt s
  have HF := hideF hf
  have l1 : (1 : Int) ≤ s.size := by omega
  have t0 : ((s.size : Int) == 0) = false := by rw [beq_eq_false_iff_ne]; omega
  have u1 : ((Pl.byt s 0 : Int) == 1) = false := by rw [beq_eq_false_iff_ne]; omega
  have u2 : ((Pl.byt s 0 : Int) == 2) = false := by rw [beq_eq_false_iff_ne]; omega
  have u3 : ((Pl.byt s 0 : Int) == 3) = false := by rw [beq_eq_false_iff_ne]; omega
  have u4 : ((Pl.byt s 0 : Int) == 4) = false := by rw [beq_eq_false_iff_ne]; omega
  have u5 : ((Pl.byt s 0 : Int) == 5) = false := by rw [beq_eq_false_iff_ne]; omega
  have u6 : ((Pl.byt s 0 : Int) == 6) = false := by rw [beq_eq_false_iff_ne]; omega
  have u15 : ((Pl.byt s 0 : Int) == 15) = false := by rw [beq_eq_false_iff_ne]; omega
  have u16 : ((Pl.byt s 0 : Int) == 16) = false := by rw [beq_eq_false_iff_ne]; omega
  have u22 : ((Pl.byt s 0 : Int) == 22) = false := by rw [beq_eq_false_iff_ne]; omega
  have u23 : ((Pl.byt s 0 : Int) == 23) = false := by rw [beq_eq_false_iff_ne]; omega
  clear hf
  go_enter Try.func18, Try.ntmps18
  go_wp2
  refine bodyPost_ret (v := .tuple #[.agg #[.int .i64 0, .int .i64 0, .int .i64 0, .int .i64 0, .int .i64 0, .int .i64 0, .int .i64 0, .slice none 0 0], .int .u8 1]) (by simp [results, Try.results18, go_sem]) rfl
    ⟨Pl.noShp, .slice none 0 0, 1, rfl, World.ownsRow_nil _ _ _ _, Pl.shpIsNone h0 h1 HF.out ⟨rfl, rfl⟩, by simp [Pl.noShp], ?_⟩
  exact bel_alloc (bel_alloc (Below.refl _ _) _) _

set_option maxRecDepth 100000 in
set_option maxHeartbeats 2000000 in
theorem shape_any (s : ByteArray) (w : World) : Calls Try.prog 18 #[.string s] w fun e w' => ShapeIs w w' e s := by
  by_cases h0 : s.size = 0
  · have t0 : ((s.size : Int) == 0) = true := by rw [beq_iff_eq]; omega
    have H0 := hideF h0
    clear h0
    go_enter Try.func18, Try.ntmps18
    go_wp2
    refine bodyPost_ret (v := .tuple #[.agg #[.int .i64 0, .int .i64 0, .int .i64 0, .int .i64 0, .int .i64 0, .int .i64 0, .int .i64 0, .slice none 0 0], .int .u8 3]) (by simp [results, Try.results18, go_sem]) rfl
      ⟨Pl.noShp, .slice none 0 0, 3, rfl, World.ownsRow_nil _ _ _ _, .inl ⟨.inl H0.out, rfl, rfl⟩, by simp [Pl.noShp], ?_⟩
    exact bel_alloc (Below.refl _ _) _
  · by_cases h1 : 253 < s.size
    · have t0 : ((s.size : Int) == 0) = false := by rw [beq_eq_false_iff_ne]; omega
      go_enter Try.func18, Try.ntmps18
      go_wp2
      refine bodyPost_ret (v := .tuple #[.agg #[.int .i64 0, .int .i64 0, .int .i64 0, .int .i64 0, .int .i64 0, .int .i64 0, .int .i64 0, .slice none 0 0], .int .u8 3]) (by simp [results, Try.results18, go_sem]) rfl
        ⟨Pl.noShp, .slice none 0 0, 3, rfl, World.ownsRow_nil _ _ _ _, .inl ⟨.inr h1, rfl, rfl⟩, by simp [Pl.noShp], ?_⟩
      exact bel_alloc (Below.refl _ _) _
    · have h0' : 0 < s.size := by omega
      have h1' : s.size ≤ 253 := by omega
      by_cases f1 : Pl.byt s 0 = 1
      · exact shape_1 s w h0' h1' f1
      by_cases f2 : Pl.byt s 0 = 2
      · exact shape_2 s w h0' h1' f2
      by_cases f3 : Pl.byt s 0 = 3
      · exact shape_3 s w h0' h1' f3
      by_cases f4 : Pl.byt s 0 = 4
      · exact shape_4 s w h0' h1' f4
      by_cases f5 : Pl.byt s 0 = 5
      · exact shape_5 s w h0' h1' f5
      by_cases f6 : Pl.byt s 0 = 6
      · exact shape_6 s w h0' h1' f6
      by_cases f15 : Pl.byt s 0 = 15
      · exact shape_15 s w h0' h1' f15
      by_cases f16 : Pl.byt s 0 = 16
      · exact shape_16 s w h0' h1' f16
      by_cases f22 : Pl.byt s 0 = 22
      · exact shape_22 s w h0' h1' f22
      by_cases f23 : Pl.byt s 0 = 23
      · exact shape_23 s w h0' h1' f23
      exact shape_none s w h0' h1' ⟨f1, f2, f3, f4, f5, f6, f15, f16, f22, f23⟩
end Go.Proofs.Ytcpldcojckhapaa
