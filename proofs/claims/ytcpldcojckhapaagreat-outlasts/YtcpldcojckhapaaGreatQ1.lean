/-
  latch.newRequest and tables.has: what they answer.
-/
import Derived.Test.YtcpldcojckhapaaGreatV1
import Derived.Test.YtcpldcojckhapaaGreatW6
set_option maxRecDepth 100000
namespace Go.Proofs.YtcpldcojckhapaaGreat
open Go.RowKit

theorem set10_other (W : World) (g k : Nat) (h : k ≠ g) (a0 a1 a2 a3 a4 a5 a6 a7 a8 a9 : Value) : ((((((((((W.setCell ⟨g, 0, none⟩ a0).setCell ⟨g, 1, none⟩ a1).setCell ⟨g, 2, none⟩ a2).setCell ⟨g, 3, none⟩ a3).setCell ⟨g, 4, none⟩ a4).setCell ⟨g, 5, none⟩ a5).setCell ⟨g, 6, none⟩ a6).setCell ⟨g, 7, none⟩ a7).setCell ⟨g, 8, none⟩ a8).setCell ⟨g, 9, none⟩ a9).heap[k]? = W.heap[k]? := by
  rw [heap_setCell_other _ _ _ _ h, heap_setCell_other _ _ _ _ h, heap_setCell_other _ _ _ _ h, heap_setCell_other _ _ _ _ h, heap_setCell_other _ _ _ _ h, heap_setCell_other _ _ _ _ h, heap_setCell_other _ _ _ _ h, heap_setCell_other _ _ _ _ h, heap_setCell_other _ _ _ _ h, heap_setCell_other _ _ _ _ h]
theorem bel10 {w W : World} (h : Below w.heap.size w W) (a0 a1 a2 a3 a4 a5 a6 a7 a8 a9 : Value) : Below w.heap.size w ((((((((((W.setCell ⟨w.heap.size, 0, none⟩ a0).setCell ⟨w.heap.size, 1, none⟩ a1).setCell ⟨w.heap.size, 2, none⟩ a2).setCell ⟨w.heap.size, 3, none⟩ a3).setCell ⟨w.heap.size, 4, none⟩ a4).setCell ⟨w.heap.size, 5, none⟩ a5).setCell ⟨w.heap.size, 6, none⟩ a6).setCell ⟨w.heap.size, 7, none⟩ a7).setCell ⟨w.heap.size, 8, none⟩ a8).setCell ⟨w.heap.size, 9, none⟩ a9) :=
  (((((((((h.setCell (Nat.le_refl _) _).setCell (Nat.le_refl _) _).setCell (Nat.le_refl _) _).setCell (Nat.le_refl _) _).setCell (Nat.le_refl _) _).setCell (Nat.le_refl _) _).setCell (Nat.le_refl _) _).setCell (Nat.le_refl _) _).setCell (Nat.le_refl _) _).setCell (Nat.le_refl _) _
/-- A request as its body says it. -/
def reqV (s : ByteArray) (x : Pl.Shp) (v : Value) (k : Nat) : Value := .agg #[.string s, .int .i64 (x.fn : Nat), .int .i64 (x.tab : Nat), .int .i64 (x.frm : Nat), .int .i64 (x.cnt : Nat), .int .i64 (x.into : Nat), .int .i64 (x.to : Nat), .int .i64 (x.many : Nat), v, .int .u8 (k : Nat)]
set_option maxRecDepth 100000 in
set_option maxHeartbeats 1000000 in
theorem newRequest_any (s : ByteArray) (w : World) : Calls Tryz.prog 77 #[.string s] w fun e w' => ∃ (x : Pl.Shp) (v : Value) (k : Nat), e = .returned (reqV s x v k) ∧ w'.ownsRow w.heap.size 3 1 v x.vals.length (x.vals.flatMap encI) ∧ Pl.ShpIs s x k ∧ x.vals.length ≤ 2000 ∧ Below w.heap.size w w' := by
  obtain ⟨W, hW⟩ : ∃ W, W = w.alloc (.cells #[.string ⟨#[]⟩, .int .i64 0, .int .i64 0, .int .i64 0, .int .i64 0, .int .i64 0, .int .i64 0, .int .i64 0, .slice none 0 0, .int .u8 0] 146) := ⟨_, rfl⟩
  have hWb : Below w.heap.size w W := by rw [hW]; exact bel_alloc (Below.refl _ _) _
  have hWg : W.heap[w.heap.size]? = some (.cells #[.string ⟨#[]⟩, .int .i64 0, .int .i64 0, .int .i64 0, .int .i64 0, .int .i64 0, .int .i64 0, .int .i64 0, .slice none 0 0, .int .u8 0] 146 (0, 0)) := by rw [hW]; exact heap_alloc_new w _
  have hWs : W.heap.size = w.heap.size + 1 := by rw [hW]; simp
  have HWb := hideF hWb
  have HWg := hideF hWg
  clear hWb hWg
  go_enter Tryz.func77, Tryz.ntmps77
  go_wp2_with fail
  rw [← hW]
  clear hW
  refine (shape_any s W).mono ?_
  rintro e w1 ⟨x, v, k, rfl, hown, hsh, hlen, hb1⟩
  unfold shV
  obtain ⟨ad, cp, rfl, _⟩ := own_view hown
  have hg1 := (hb1.block w.heap.size (by omega)).trans HWg.out
  have hs1 := hb1.size
  have HO := hideF hown
  have HSH := hideF hsh
  have HB1 := hideF (bel_then HWb.out hb1)
  have hc := fun j => cell_of_row w1 w.heap.size j _ _ _ hg1
  have hf := fun j => frozen_of_row w1 w.heap.size j _ _ hg1
  have c0 : w1.cell? ⟨w.heap.size, 0, none⟩ = some (.string ⟨#[]⟩) := hc 0
  have c1 : w1.cell? ⟨w.heap.size, 1, none⟩ = some (.int .i64 0) := hc 1
  have c2 : w1.cell? ⟨w.heap.size, 2, none⟩ = some (.int .i64 0) := hc 2
  have c3 : w1.cell? ⟨w.heap.size, 3, none⟩ = some (.int .i64 0) := hc 3
  have c4 : w1.cell? ⟨w.heap.size, 4, none⟩ = some (.int .i64 0) := hc 4
  have c5 : w1.cell? ⟨w.heap.size, 5, none⟩ = some (.int .i64 0) := hc 5
  have c6 : w1.cell? ⟨w.heap.size, 6, none⟩ = some (.int .i64 0) := hc 6
  have c7 : w1.cell? ⟨w.heap.size, 7, none⟩ = some (.int .i64 0) := hc 7
  have c8 : w1.cell? ⟨w.heap.size, 8, none⟩ = some (.slice none 0 0) := hc 8
  have c9 : w1.cell? ⟨w.heap.size, 9, none⟩ = some (.int .u8 0) := hc 9
  have hlt := lt_of_block hg1
  clear hown hsh hb1 hg1 hc
  go_wp2_with fail
  refine bodyPost_ret (v := reqV s x (.slice ad x.vals.length cp) k) (by unfold reqV; simp [results, Tryz.results77, go_sem, hlt, c0, c1, c2, c3, c4, c5, c6, c7, c8, c9]) rfl ?_
  refine ⟨x, _, k, rfl, ?_, HSH.out, hlen, ?_⟩
  · exact (own_same (own_base HO.out (by omega)) (fun g hg => set10_other _ _ _ (by have := (HO.out.lt g hg).1; omega) _ _ _ _ _ _ _ _ _ _)).alloc _
  · exact bel_alloc (bel10 HB1.out _ _ _ _ _ _ _ _ _ _) _

theorem DevIn.cellE {w : World} {d L S : Nat} {E : Nat → Nat} {wv : Value} {D : Dev} (h : DevIn w d L S E wv D) {i : Nat} (hi : i < 4) : w.cell? ⟨d, 3 + i, none⟩ = some (.slice (some ⟨E i, 0, none⟩) (D.sz i) (D.sz i)) := by
  rw [cell_of_row _ _ _ _ _ _ h.dev]
  rcases (show i = 0 ∨ i = 1 ∨ i = 2 ∨ i = 3 by omega) with rfl | rfl | rfl | rfl <;> rfl
theorem DevIn.cellK {w : World} {d L S : Nat} {E : Nat → Nat} {wv : Value} {D : Dev} (h : DevIn w d L S E wv D) {i : Nat} (hi : i < 4) : w.cell? ⟨d, 7 + i, none⟩ = some (.int .i64 (D.kp i : Nat)) := by
  rw [cell_of_row _ _ _ _ _ _ h.dev]
  rcases (show i = 0 ∨ i = 1 ∨ i = 2 ∨ i = 3 by omega) with rfl | rfl | rfl | rfl <;> rfl
/-- Are all entries there that a request reads or writes? -/
def hasB (D : Dev) (x : Pl.Shp) : Bool := decide (x.frm + x.cnt ≤ D.sz x.tab) && decide (x.to + x.many ≤ D.sz x.into)
set_option maxRecDepth 100000 in
set_option maxHeartbeats 1000000 in
theorem has_any (d L S : Nat) (E : Nat → Nat) (wv : Value) (D : Dev) (x : Pl.Shp) (v : Value) (n : Nat) (a : Option Addr) (c : Nat) (w : World) (h : DevIn w d L S E wv D) (ht : x.tab < 4) (hi : x.into < 4) (h1 : x.frm ≤ 100000) (h2 : x.cnt ≤ 100000) (h3 : x.to ≤ 100000) (h4 : x.many ≤ 100000) (hv : v = .slice a n c) :
    Calls Tryz.prog 114 #[.pointer (some ⟨d, 3, none⟩), shV x v] w fun e w' => e = .returned (.bool (hasB D x)) ∧ Below w.heap.size w w' := by
  subst hv
  unfold shV hasB
  have e1 := h.cellE ht
  have e2 := h.cellE hi
  have hdl := lt_of_block h.dev
  have ht' : (x.tab : Int) < 4 := by omega
  have hi' : (x.into : Int) < 4 := by omega
  clear h
  by_cases g1 : x.frm + x.cnt ≤ D.sz x.tab
  · have g1' : (x.frm : Int) + (x.cnt : Int) ≤ (D.sz x.tab : Int) := by omega
    have d1 : decide (x.frm + x.cnt ≤ D.sz x.tab) = true := by simp [g1]
    rw [d1, Bool.true_and]
    clear d1
    by_cases g2 : x.to + x.many ≤ D.sz x.into
    · have g2' : (x.to : Int) + (x.many : Int) ≤ (D.sz x.into : Int) := by omega
      have d2 : decide (x.to + x.many ≤ D.sz x.into) = true := by simp [g2]
      rw [d2]
      clear d2
      go_enter Tryz.func114, Tryz.ntmps114
      go_wp2_with fail
      go_quiet (fail)
      go_wp2
      go_ret
      exact ⟨rfl, below_drewN (bel_alloc (Below.refl _ _) _) _⟩
    · have g2' : decide ((x.to : Int) + (x.many : Int) ≤ (D.sz x.into : Int)) = false := by simp; omega
      have d2 : decide (x.to + x.many ≤ D.sz x.into) = false := by simp; omega
      rw [d2]
      clear d2 g2
      go_enter Tryz.func114, Tryz.ntmps114
      go_wp2_with fail
      go_quiet (fail)
      go_wp2
      go_ret
      exact ⟨rfl, below_drewN (bel_alloc (Below.refl _ _) _) _⟩
  · have g1' : decide ((x.frm : Int) + (x.cnt : Int) ≤ (D.sz x.tab : Int)) = false := by simp; omega
    have d1 : decide (x.frm + x.cnt ≤ D.sz x.tab) = false := by simp; omega
    rw [d1, Bool.false_and]
    clear d1 g1
    go_enter Tryz.func114, Tryz.ntmps114
    go_wp2_with fail
    go_quiet (fail)
    go_wp2
    go_ret
    exact ⟨rfl, below_drewN (bel_alloc (Below.refl _ _) _) _⟩
end Go.Proofs.YtcpldcojckhapaaGreat
