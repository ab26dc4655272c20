/-
  store.Open of a blank disk of two sectors: what it answers.
-/
import Derived.Test.YtcpldcojckhapaaGreatD4
import Derived.Test.YtcpldcojckhapaaGreatE2
import Derived.Test.YtcpldcojckhapaaGreatRep
set_option maxRecDepth 100000
namespace Go.Proofs.YtcpldcojckhapaaGreat
open Go.RowKit

def zerosB (z : Nat) : ByteArray := ⟨(Lib.repeatL [0] z).toArray⟩
theorem cells3 {W : World} {g : Nat} {t : TypeId} {a0 a1 a2 : Value} (h : W.heap[g]? = some (.cells #[a0, a1, a2] t (0, 0))) : W.cell? ⟨g, 0, none⟩ = some a0 ∧ W.cell? ⟨g, 1, none⟩ = some a1 ∧ W.cell? ⟨g, 2, none⟩ = some a2 :=
  ⟨cell_of_row W g 0 _ t (0, 0) h, cell_of_row W g 1 _ t (0, 0) h, cell_of_row W g 2 _ t (0, 0) h⟩

set_option maxRecDepth 100000 in
set_option maxHeartbeats 1000000 in
theorem storeOpen_blank (z g k : Nat) (A B : ByteArray) (w : World) (hz : z ≤ 62) (hk : 2 ≤ k) (hg : g < w.heap.size) (h0 : w.cell? ⟨g, 0, none⟩ = some (.string A)) (h1 : w.cell? ⟨g, 1, none⟩ = some (.string B))
    (hA : A.size = 64) (hB : B.size = 64) (sA : 0 = stampL A) (sB : 0 = stampL B) (eA : Pl.byt A 63 = 0) (eB : Pl.byt B 63 = 0) :
    Calls Tryz.prog 62 #[.int .i64 (z : Nat), .slice (some ⟨g, 0, none⟩) 2 k] w fun e w' => e = .returned (.tuple #[.pointer (some ⟨w.heap.size, 0, none⟩), .string (zerosB z), .slice none 0 0]) ∧
      w'.heap[w.heap.size]? = some (.cells #[.int .i64 1, .int .i64 0, .int .u8 0] 155 (0, 0)) ∧ Below w.heap.size w w' := by
  have HA := hideF hA
  have HB := hideF hB
  have HSA := hideF sA
  have HSB := hideF sB
  have EA := hideF eA
  have EB := hideF eB
  clear hA hB sA sB eA eB
  go_enter Tryz.func62, Tryz.ntmps62
  go_wp2_with fail
  refine (sectorsOf_at z 1 (by omega) _ (by omega)).mono ?_
  rintro e w1 ⟨rfl, rfl⟩
  obtain ⟨W, hW⟩ : ∃ W, W = w1.alloc (.cells #[.int .i64 1, .int .i64 0, .int .u8 0] 155) := ⟨_, rfl⟩
  have hWs : W.heap.size = w1.heap.size + 1 := by rw [hW]; simp
  have hWb : Below w1.heap.size w1 W := by rw [hW]; exact bel_alloc (Below.refl _ _) _
  have hWg : W.heap[w1.heap.size]? = some (.cells #[.int .i64 1, .int .i64 0, .int .u8 0] 155 (0, 0)) := by rw [hW]; exact heap_alloc_new w1 _
  obtain ⟨c0, c1, c2⟩ := cells3 hWg
  have d0 : W.cell? ⟨g, 0, none⟩ = some (.string A) := by rw [(bcell hWb).1 g _ hg]; exact h0
  have d1 : W.cell? ⟨g, 1, none⟩ = some (.string B) := by rw [(bcell hWb).1 g _ hg]; exact h1
  clear h0 h1
  go_wp2_with fail
  rw [← hW]
  have HW := hideF hW
  clear hW
  refine (findLatest_blank w1.heap.size g k A B W hk c0 d0 d1 HA.out HB.out HSA.out HSB.out).mono ?_
  rintro e w2 ⟨rfl, n2, hw2⟩
  have hg2 : w2.heap[w1.heap.size]? = some (.cells #[.int .i64 1, .int .i64 0, .int .u8 0] 155 (0, 0)) := by rw [hw2]; simpa using hWg
  have hb2 : Below w1.heap.size w1 w2 := by rw [hw2]; exact below_drewN hWb _
  have hs2 : w2.heap.size = w1.heap.size + 1 := by rw [hw2]; simpa using hWs
  have e0 : w2.cell? ⟨g, 0, none⟩ = some (.string A) := by rw [hw2]; simpa using d0
  have e1 : w2.cell? ⟨g, 1, none⟩ = some (.string B) := by rw [hw2]; simpa using d1
  clear c0 c1 c2 d0 d1 hWs hWb hWg hw2 HW
  go_wp2_with fail
  refine (repeat_any ⟨#[0]⟩ z w2 (by omega) (by show 1 * z ≤ _; omega)).mono ?_
  rintro e w3 ⟨rfl, hb3⟩
  have hg3 := (hb3.block w1.heap.size (by omega)).trans hg2
  have f0 : w3.cell? ⟨g, 0, none⟩ = some (.string A) := by rw [(bcell hb3).1 g _ (by omega)]; exact e0
  have f1 : w3.cell? ⟨g, 1, none⟩ = some (.string B) := by rw [(bcell hb3).1 g _ (by omega)]; exact e1
  have hB3 := bel_then hb2 hb3
  have HB3 := hideF hB3
  have HG3 := hideF hg3
  obtain ⟨c0, c1, c2⟩ := cells3 hg3
  clear e0 e1 hb3 hb2 hg2 hs2 hB3 hg3
  go_wp2_with fail
  refine (makeReady_blank w1.heap.size g k A B w3 hk c0 c1 c2 f0 f1 HA.out HB.out EA.out EB.out).mono ?_
  rintro e w4 ⟨rfl, n4, rfl⟩
  go_wp2
  refine bodyPost_ret (v := .tuple #[.pointer (some ⟨w1.heap.size, 0, none⟩), .string (zerosB z), .slice none 0 0]) (by simp [results, Tryz.results62, go_sem, zerosB]) rfl ⟨rfl, ?_, below_drewN HB3.out _⟩
  simpa using HG3.out
end Go.Proofs.YtcpldcojckhapaaGreat
