/-
  Rows of cells in memory, and latch.newLines: what it answers.
-/
import Derived.Test.YtcpldcojckhapaaGreatJ9
set_option maxRecDepth 100000
namespace Go.Proofs.YtcpldcojckhapaaGreat
open Go.RowKit

/-- A block of n elements of m cells each. -/
def Grid (w : World) (L : Nat) (t : TypeId) (n m : Nat) (f : Nat → Nat → Value) : Prop :=
  ∃ cur : Array Value, w.heap[L]? = some (.cells cur t (0, 0)) ∧ cur.size = n * m ∧ ∀ i j, i < n → j < m → cur[i * m + j]? = some (f i j)
section
variable {w w' : World} {L : Nat} {t : TypeId} {n m : Nat} {f g : Nat → Nat → Value}
theorem Grid.cell (h : Grid w L t n m f) {i j : Nat} (hi : i < n) (hj : j < m) : w.cell? ⟨L, i * m + j, none⟩ = some (f i j) := by
  obtain ⟨cur, h1, h2, h3⟩ := h
  rw [cell_of_row w L _ cur t (0, 0) h1]; exact h3 i j hi hj
theorem Grid.frozen (h : Grid w L t n m f) (k : Nat) : w.frozen? ⟨L, k, none⟩ = false := by
  obtain ⟨cur, h1, _⟩ := h
  exact frozen_of_row w L k cur t h1
theorem Grid.lt (h : Grid w L t n m f) : L < w.heap.size := by
  obtain ⟨cur, h1, _⟩ := h
  exact lt_of_block h1
theorem Grid.block (h : Grid w L t n m f) : ∃ cur, w.heap[L]? = some (.cells cur t (0, 0)) := by
  obtain ⟨cur, h1, _⟩ := h
  exact ⟨cur, h1⟩
theorem Grid.same (h : Grid w L t n m f) (e : w'.heap[L]? = w.heap[L]?) : Grid w' L t n m f := by
  obtain ⟨cur, h1, h2⟩ := h
  exact ⟨cur, e.trans h1, h2⟩
theorem Grid.below {B : Nat} (h : Grid w L t n m f) (hb : Below B w w') (hl : L < B) : Grid w' L t n m f := h.same (hb.block L hl)
theorem Grid.congr (h : Grid w L t n m f) (e : ∀ i j, i < n → j < m → f i j = g i j) : Grid w L t n m g := by
  obtain ⟨cur, h1, h2, h3⟩ := h
  exact ⟨cur, h1, h2, fun i j hi hj => by rw [h3 i j hi hj, e i j hi hj]⟩
theorem pos_eq {m a b i j : Nat} (hb : b < m) (hj : j < m) (e : a * m + b = i * m + j) : a = i ∧ b = j := by
  have hm : 0 < m := by omega
  have h1 : (a * m + b) / m = a := by rw [Nat.mul_comm, Nat.mul_add_div hm, Nat.div_eq_of_lt hb, Nat.add_zero]
  have h2 : (i * m + j) / m = i := by rw [Nat.mul_comm, Nat.mul_add_div hm, Nat.div_eq_of_lt hj, Nat.add_zero]
  have h3 : a = i := by rw [← h1, ← h2, e]
  subst h3
  exact ⟨rfl, by omega⟩
theorem Grid.set (h : Grid w L t n m f) {i j : Nat} (hi : i < n) (hj : j < m) (v : Value) : Grid (w.setCell ⟨L, i * m + j, none⟩ v) L t n m (fun a b => if a = i ∧ b = j then v else f a b) := by
  obtain ⟨cur, h1, h2, h3⟩ := h
  have hlt : i * m + j < cur.size := by
    rw [h2]
    have : (i + 1) * m ≤ n * m := Nat.mul_le_mul_right m hi
    rw [Nat.add_mul] at this
    omega
  refine ⟨cur.setIfInBounds (i * m + j) v, heap_setCell_same w L _ cur t v h1, by rw [Array.size_setIfInBounds]; exact h2, fun a b ha hb => ?_⟩
  rw [Array.getElem?_setIfInBounds]
  by_cases e : i * m + j = a * m + b
  · obtain ⟨e1, e2⟩ := pos_eq hj hb e
    subst e1; subst e2
    rw [if_pos rfl, if_pos hlt]
    simp
  · rw [if_neg e]
    show _ = some (if a = i ∧ b = j then v else f a b)
    rw [if_neg (show ¬ (a = i ∧ b = j) from fun x => e (by rw [x.1, x.2]))]
    exact h3 a b ha hb
theorem Grid.set_other (h : Grid w L t n m f) {K : Nat} (k : Nat) (hK : L ≠ K) (v : Value) : Grid (w.setCell ⟨K, k, none⟩ v) L t n m f := h.same (heap_setCell_other w _ _ v hK)
theorem Grid.alloc (h : Grid w L t n m f) (o : Obj) : Grid (w.alloc o) L t n m f := h.same (heap_alloc_old w o h.lt)
theorem Grid.drewN (h : Grid w L t n m f) (k : Nat) : Grid (w.drewN k) L t n m f := h.same (by simp)
theorem grid_made (w : World) (z : Array Value) (n m : Nat) (t : TypeId) (hz : z.size = m) : Grid (w.alloc (.cells (madeCells z (n * m)) t)) w.heap.size t n m (fun _ j => z[j]!) := by
  refine ⟨_, heap_alloc_new w _, size_madeCells _ _, fun i j hi hj => ?_⟩
  have hlt : i * m + j < n * m := by
    have : (i + 1) * m ≤ n * m := Nat.mul_le_mul_right m hi
    rw [Nat.add_mul] at this
    omega
  have hmod : (i * m + j) % m = j := by rw [Nat.mul_comm, Nat.mul_add_mod, Nat.mod_eq_of_lt hj]
  simp [madeCells, hlt, hz, hmod]
end

/-- A line as it is at first. -/
def lnV (k : Nat) (j : Nat) : Value := if j = 0 then .int .i64 (k : Nat) else if j = 1 then .string ⟨#[]⟩ else .bool false
theorem Tryz.infoLn : (Tryz.prog.info? 116).map (fun i => (i.zero, i.size, i.bytes)) = some (some (.agg #[.int .i64 0, .string ⟨#[]⟩, .bool false]), 3, 32) := by kernel_rfl
set_option maxRecDepth 100000 in
set_option maxHeartbeats 1000000 in
theorem newLines_at (n k g : Nat) (kn : Nat → Nat) (w : World) (hn : n ≤ 100) (hg : g < w.heap.size) (hc : ∀ j, j < n → w.cell? ⟨g, j, none⟩ = some (.int .i64 (kn j : Nat))) :
    Calls Tryz.prog 64 #[.slice (some ⟨g, 0, none⟩) n k] w fun e w' => e = .returned (.slice (some ⟨w.heap.size, 0, none⟩) n n) ∧ Grid w' w.heap.size 116 n 3 (fun i j => lnV (kn i) j) ∧ Below w.heap.size w w' := by
  obtain ⟨i0, hi, hz0, hz1, hz2⟩ := info_parts Tryz.infoLn
  have hmk : ∀ W : World, (Instr.makeSlice 105 (.int .i64 (n : Int)) (.int .i64 (n : Int))).run Tryz.prog W = .ok (.slice (some ⟨W.heap.size, 0, none⟩) n n) (W.alloc (.cells (madeCells #[.int .i64 0, .string ⟨#[]⟩, .bool false] (n * 3)) 116)) := fun W => by
    have h := run_make (P := Tryz.prog) W 105 116 i0 (.agg #[.int .i64 0, .string ⟨#[]⟩, .bool false]) Tryz.underlying105 hi hz0 .i64 .i64 (n : Int) (n : Int) (by omega) (by omega) (by rw [hz2]; omega) (by omega)
    rw [hz1] at h
    simpa [Value.cells] using h
  have hgr := grid_made w #[.int .i64 0, .string ⟨#[]⟩, .bool false] n 3 116 rfl
  obtain ⟨W, hW⟩ : ∃ W, W = w.alloc (.cells (madeCells #[.int .i64 0, .string ⟨#[]⟩, .bool false] (n * 3)) 116) := ⟨_, rfl⟩
  have hWb : Below w.heap.size w W := by rw [hW]; exact bel_alloc (Below.refl _ _) _
  rw [← hW] at hgr
  have HC := hideF hc
  have HG := hideF hgr
  have HB := hideF hWb
  clear hc hgr hWb
  go_enter Tryz.func64, Tryz.ntmps64
  go_wp2_with fail
  rw [← hW]
  clear hW
  go_loopw [11] (fun i wr => ∃ q : Nat, q ≤ n ∧ i = .int .i64 (q : Nat) ∧ Grid wr w.heap.size 116 n 3 (fun i j => lnV (if i < q then kn i else 0) j) ∧ Below w.heap.size w wr) (fun i _ => n - (intOf i).toNat)
  case atStart =>
    refine ⟨0, by omega, rfl, HG.out.congr fun i j _ hj => ?_, HB.out⟩
    rcases (show j = 0 ∨ j = 1 ∨ j = 2 by omega) with rfl | rfl | rfl <;> simp [lnV]
  case round =>
    obtain ⟨q, hq, rfl, hgr, hb⟩ := hrel
    by_cases hlt : q < n
    · have hkc : wr.cell? ⟨g, q, none⟩ = some (.int .i64 (kn q : Nat)) := by rw [(bcell hb).1 g _ hg]; exact HC.out q hlt
      have hcl : wr.cell? ⟨w.heap.size, q * 3, none⟩ = some (lnV (if q < q then kn q else 0) 0) := by have := hgr.cell hlt (j := 0) (by omega); rwa [Nat.add_zero] at this
      have hfz := hgr.frozen (q * 3)
      have HGR := hideF hgr
      have HBR := hideF hb
      clear hgr hb
      go_wp2_with fail
      go_roundw
      case rel =>
        refine ⟨q + 1, by omega, by go_num, ?_, HBR.out.setCell (Nat.le_refl _) _⟩
        have := HGR.out.set hlt (j := 0) (by omega) (.int .i64 (kn q : Nat))
        rw [Nat.add_zero] at this
        refine this.congr fun i j hi hj => ?_
        by_cases e : i = q ∧ j = 0
        · rw [if_pos e, e.1, e.2]; simp [lnV]
        · rw [if_neg e]
          by_cases e2 : i = q
          · have : j ≠ 0 := fun h => e ⟨e2, h⟩
            simp [lnV, this]
          · have : (i < q + 1) = (i < q) := by apply propext; omega
            simp only [this]
      case measure => simp [intOf]; omega
    · obtain rfl : q = n := by omega
      go_wp2
      go_ret
      exact ⟨rfl, hgr.congr fun i j hi _ => by rw [if_pos hi], hb⟩
end Go.Proofs.YtcpldcojckhapaaGreat
