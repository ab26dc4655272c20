/-
  The answers that wait, in a heap: what its methods do.
-/
import Derived.Test.YtcpldcojckhapaaGreatJ11
set_option maxRecDepth 100000
namespace Go.Proofs.YtcpldcojckhapaaGreat
open Go.RowKit

/-- What may turn: blocks of some types. -/
structure FtT (B : Nat) (T : TypeId → Bool) (w w' : World) : Prop where
  os : w'.os = w.os
  tape : w'.tape = w.tape
  output : w'.output = w.output
  size : w.heap.size ≤ w'.heap.size
  keep : ∀ (g : Nat) (cur : Array Value) (t : TypeId), w.heap[g]? = some (.cells cur t (0, 0)) → T t = false → w'.heap[g]? = w.heap[g]?
  low : ∀ g, g < B → g < w.heap.size → w'.heap[g]? = w.heap[g]?
section
variable {B : Nat} {T : TypeId → Bool} {a b c w w' : World}
theorem FtT.refl (T : TypeId → Bool) (w : World) : FtT B T w w := ⟨rfl, rfl, rfl, Nat.le_refl _, fun _ _ _ _ _ => rfl, fun _ _ _ => rfl⟩
theorem FtT.trans (h : FtT B T a b) (h' : FtT B T b c) : FtT B T a c :=
  ⟨h'.os.trans h.os, h'.tape.trans h.tape, h'.output.trans h.output, Nat.le_trans h.size h'.size, fun g cur t hg ht => (h'.keep g cur t ((h.keep g cur t hg ht).trans hg) ht).trans (h.keep g cur t hg ht), fun g hg hs => (h'.low g hg (Nat.lt_of_lt_of_le hs h.size)).trans (h.low g hg hs)⟩
theorem FtT.of_below (T : TypeId → Bool) (h : Below w.heap.size w w') : FtT B T w w' := ⟨h.os, h.tape, h.output, h.size, fun g _ _ hg _ => h.block g (lt_of_block hg), fun g _ hs => h.block g hs⟩
theorem FtT.then_below (h : FtT B T a w) (h' : Below w.heap.size w w') : FtT B T a w' := h.trans (FtT.of_below T h')
theorem FtT.alloc (h : FtT B T a w) (o : Obj) : FtT B T a (w.alloc o) := h.then_below (bel_alloc (Below.refl _ _) _)
theorem FtT.drewN (h : FtT B T a w) (k : Nat) : FtT B T a (w.drewN k) := h.then_below (below_drewN (Below.refl _ _) _)
theorem FtT.below (h : FtT w.heap.size T w w') : Below w.heap.size w w' := ⟨h.os, h.tape, h.output, h.size, fun k hk => h.low k hk hk⟩
theorem ne_of_types {g k : Nat} {cur cur' : Array Value} {t t' : TypeId} (h : w.heap[g]? = some (.cells cur t (0, 0))) (h' : w.heap[k]? = some (.cells cur' t' (0, 0))) (ht : t ≠ t') : g ≠ k := fun e => by
  subst e
  rw [h] at h'
  simp only [Option.some.injEq, Obj.cells.injEq, and_true] at h'
  exact ht h'.2
theorem FtT.setCell {g : Nat} {cur : Array Value} {t : TypeId} (h : FtT B T a w) (hg : w.heap[g]? = some (.cells cur t (0, 0))) (ht : T t = true) (hB : B ≤ g) (k : Nat) (v : Value) : FtT B T a (w.setCell ⟨g, k, none⟩ v) :=
  h.trans ⟨rfl, rfl, rfl, by simp, fun g' cur' t' hg' ht' => heap_setCell_other w _ _ v (ne_of_types hg' hg (fun e => by rw [e, ht] at ht'; exact absurd ht' (by decide))), fun g' hg' _ => heap_setCell_other w _ _ v (by show g' ≠ g; omega)⟩
theorem FtT.grown {row : Option Nat} {t : TypeId} (h : FtT B T a w) (hg : w.grownBy w' row) (hr : ∀ k, row = some k → B ≤ k ∧ ∃ cur, w.heap[k]? = some (.cells cur t (0, 0))) (ht : T t = true) : FtT B T a w' :=
  h.trans ⟨hg.os, hg.tape, hg.output, hg.size, fun g cur t' hg' ht' => hg.block g (lt_of_block hg') (fun e => by
    obtain ⟨_, cur', hc⟩ := hr g e.symm
    exact ne_of_types hg' hc (fun e => by rw [e, ht] at ht'; exact absurd ht' (by decide)) rfl), fun g hgB hgs => hg.block g hgs (fun e => by have := (hr g e.symm).1; omega)⟩
theorem FtT.mono {T' : TypeId → Bool} (h : FtT B T w w') (ht : ∀ t, T' t = false → T t = false) : FtT B T' w w' := ⟨h.os, h.tape, h.output, h.size, fun g cur t hg h' => h.keep g cur t hg (ht t h'), h.low⟩
end
def wtT (t : TypeId) : Bool := t == 110 || t == 163
/-- Answers that wait: the device's block, and theirs. -/
structure WaitIn (B : Nat) (w : World) (d : Nat) (cur : Array Value) (wv : Value) (l : List (Int × Int × ByteArray)) : Prop where
  dev : w.heap[d]? = some (.cells cur 110 (0, 0))
  size : cur.size = 15
  at14 : cur[14]? = some wv
  own : w.ownsRow B 163 3 wv l.length (l.flatMap encF)
  lo : B ≤ d
section
variable {B : Nat} {w w' : World} {d : Nat} {cur : Array Value} {wv : Value} {l : List (Int × Int × ByteArray)}
theorem WaitIn.cell (h : WaitIn B w d cur wv l) : w.cell? ⟨d, 14, none⟩ = some wv := by rw [cell_of_row _ _ _ _ _ _ h.dev]; exact h.at14
theorem WaitIn.fz (h : WaitIn B w d cur wv l) : w.frozen? ⟨d, 14, none⟩ = false := frozen_of_row _ _ _ _ _ h.dev
theorem WaitIn.below (h : WaitIn B w d cur wv l) (hb : Below w.heap.size w w') : WaitIn B w' d cur wv l :=
  ⟨(hb.block d (lt_of_block h.dev)).trans h.dev, h.size, h.at14, ownsRow_below h.own hb, h.lo⟩
theorem WaitIn.set (h : w.heap[d]? = some (.cells cur 110 (0, 0))) (hz : cur.size = 15) (hB : B ≤ d) {v : Value} {l' : List (Int × Int × ByteArray)} (ho : w.ownsRow B 163 3 v l'.length (l'.flatMap encF)) : WaitIn B (w.setCell ⟨d, 14, none⟩ v) d (cur.setIfInBounds 14 v) v l' := by
  refine ⟨heap_setCell_same w d 14 cur 110 v h, by rw [Array.size_setIfInBounds]; exact hz, by rw [Array.getElem?_setIfInBounds, if_pos rfl, if_pos (by rw [hz]; omega)], own_same ho fun g hg => ?_, hB⟩
  obtain ⟨c, hc⟩ := own_block ho g hg
  exact heap_setCell_other w _ _ v (ne_of_types hc h (by decide))
end
theorem Tryz.infoAns : (Tryz.prog.info? 163).map (fun i => (i.zero, i.size, i.bytes)) = some (some (.agg #[.int .i64 0, .int .i64 0, .string ⟨#[]⟩]), 3, 32) := by kernel_rfl
theorem flat_snoc (l : List (Int × Int × ByteArray)) (x : Int × Int × ByteArray) : (l ++ [x]).flatMap encF = l.flatMap encF ++ [.int .i64 x.1, .int .i64 x.2.1, .string x.2.2] := by rw [List.flatMap_append]; simp [encF]

theorem grown_dev {B : Nat} {w W w3 : World} {d : Nat} {cur : Array Value} {wv : Value} {l : List (Int × Int × ByteArray)} (h : WaitIn B w d cur wv l) (hg : W.grownBy w3 wv.ownBlock) (hW : W.heap[d]? = w.heap[d]?) : w3.heap[d]? = some (.cells cur 110 (0, 0)) := by
  rw [hg.block d (lt_of_block (hW.trans h.dev)) (fun e => by obtain ⟨c, hc⟩ := own_block h.own d e.symm; exact ne_of_types hc h.dev (by decide) rfl), hW]
  exact h.dev
theorem assertAns (x : Int × Int × ByteArray) (W : World) : (Instr.typeAssert (.iface 163 (.agg #[.int .i64 x.1, .int .i64 x.2.1, .string x.2.2])) 20 163 false).run Tryz.prog W = .ok (.agg #[.int .i64 x.1, .int .i64 x.2.1, .string x.2.2]) W := by kernel_rfl
set_option maxRecDepth 100000 in
set_option maxHeartbeats 1000000 in
theorem hpush_any {B : Nat} (d : Nat) (cur : Array Value) (wv : Value) (l : List (Int × Int × ByteArray)) (x : Int × Int × ByteArray) (w : World) (hl : l.length ≤ 1000) (h : WaitIn B w d cur wv l) :
    Calls Tryz.prog 197 #[.pointer (some ⟨d, 14, none⟩), .iface 163 (.agg #[.int .i64 x.1, .int .i64 x.2.1, .string x.2.2])] w fun e w' => ∃ v', e = .returned (.tuple #[]) ∧ WaitIn B w' d (cur.setIfInBounds 14 v') v' (l ++ [x]) ∧ FtT B wtT w w' := by
  obtain ⟨i0, hi, hz0, hz1, hz2⟩ := info_parts Tryz.infoAns
  have c14 := h.cell
  have f14 := h.fz
  have hta := assertAns x
  have hdl := lt_of_block h.dev
  have HW := hideF h
  clear h
  go_enter Tryz.func197, Tryz.ntmps197
  go_wp2_with fail
  go_region_law (first
    | (refine step_append_own rfl (.tmp 7) (.tmp 10) 108 rfl B 163 i0 _ 3 32 Tryz.underlying108 hi hz0 hz1 hz2 rfl (by decide) wv l.length _ rfl ((own_same (w' := w.drew) HW.out.own (fun g _ => rfl)).alloc _) ⟨w.heap.size, 0, none⟩ 1 1 [.int .i64 x.1, .int .i64 x.2.1, .string x.2.2] rfl rfl (cell_three_new _ _ _ _ _) (by intro u hu; simp at hu; rcases hu with rfl | rfl | rfl <;> rfl) (by unfold maxLen; omega) (by omega) (by have := HW.out.lo; simp; omega) ?_; intro v' w3 hown3 hgrow3; obtain ⟨ad3, cp3, rfl, _⟩ := own_view hown3; have hd3 := grown_dev HW.out hgrow3 (heap_alloc_old w _ hdl); have c3 : w3.cell? ⟨d, 14, none⟩ = some wv := (by rw [cell_of_row _ _ _ _ _ _ hd3]; exact HW.out.at14); have f3 : w3.frozen? ⟨d, 14, none⟩ = false := frozen_of_row _ _ _ _ _ hd3))
  all_goals
    have HO3 := hideF hown3
    have HG3 := hideF hgrow3
    have HD3 := hideF hd3
    clear hown3 hgrow3 hd3
    go_wp2
    go_end0
    refine ⟨.slice ad3 (l.length + 1) cp3, rfl, ?_, ?_⟩
    · exact WaitIn.set HD3.out HW.out.size HW.out.lo (by rw [flat_snoc, List.length_append]; exact HO3.out)
    · exact ((((FtT.refl wtT w).alloc _).drewN 1).grown HG3.out (fun k hk => ⟨(HW.out.own.lt k hk).1, by obtain ⟨c, hc⟩ := own_block HW.out.own k hk; exact ⟨c, (heap_alloc_old _ _ (lt_of_block hc)).trans hc⟩⟩) rfl).setCell HD3.out rfl HW.out.lo _ _
end Go.Proofs.YtcpldcojckhapaaGreat
