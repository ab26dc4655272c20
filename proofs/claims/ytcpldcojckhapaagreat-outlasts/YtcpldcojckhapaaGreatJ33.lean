/-
  latchkeep.stream: what it answers.
  An answer on a Stream, and what becomes of it.
-/
import Derived.Test.YtcpldcojckhapaaGreatJ9
import Derived.Test.YtcpldcojckhapaaGreatJ32
import Derived.Test.YtcpldcojckhapaaGreatJ29
import Derived.Test.YtcpldcojckhapaaGreatP4
set_option maxRecDepth 100000
namespace Go.Proofs.YtcpldcojckhapaaGreat
open Go.RowKit

def streamB (m u : Nat) (b : ByteArray) : ByteArray := twoB m ++ ⟨#[0, 0]⟩ ++ twoB (b.size + 1) ++ ⟨#[UInt8.ofNat u]⟩ ++ b
set_option maxRecDepth 100000 in
set_option maxHeartbeats 2000000 in
theorem stream_any (m u : Nat) (b : ByteArray) (w : World) (hm : m < 65536) (hu : u < 256) (hb : b.size ≤ 253) :
    Calls Tryz.prog 21 #[.int .i64 (m : Nat), .int .i64 (u : Nat), .string b] w fun e w' => e = .returned (.string (streamB m u b)) ∧ Below w.heap.size w w' := by
  have c1 : ∀ (W : World) (g : Nat), W.cell? ⟨g, 0, none⟩ = some (.int .u8 (u : Int)) → (convert 114 9 (.slice (some ⟨g, 0, none⟩) 1 1)).run Tryz.prog W = .ok (.string ⟨#[UInt8.ofNat u]⟩) W := fun W g hc => conv1_at W g u hc
  have wl : IntKind.i64.wrap ((b.size : Int) + 1) = (b.size : Int) + 1 := by rw [IntKind.wrap_i64]; omega
  have wu : IntKind.u8.wrap (u : Int) = (u : Int) := by rw [IntKind.wrap_u8]; omega
  have hlim : ¬ 9223372036854775807 < 7 + b.size := by omega
  have z1 : (twoB m).size = 2 := rfl
  have z2 : (twoB (b.size + 1)).size = 2 := rfl
  go_enter Tryz.func21, Tryz.ntmps21
  go_wp2_with fail
  go_region_law (first
    | (refine step_call rfl 29 #[.tmp 7] #[3] rfl #[.int .i64 (m : Nat)] (by simp [Act.eval, Act.put]) (enter25 _ _) _ (two_step _ m rfl _ hm) ?_; rintro v w1 ⟨rfl, hb1⟩; obtain ⟨hc1, hf1⟩ := bcell hb1; try (have hz1 : w.heap.size < w1.heap.size := (by have := hb1.size; simp at this; omega)))
    | (refine step_call rfl 29 #[.tmp 12] #[3] rfl #[.int .i64 ((b.size : Int) + 1)] (by simp [Act.eval, Act.put]) (enter25 _ _) _ (two_step _ (b.size + 1) (by omega) _ (by omega)) ?_; rintro v w2 ⟨rfl, hb2⟩; obtain ⟨hc2, hf2⟩ := bcell hb2))
  all_goals go_wp2
  all_goals go_ret
  all_goals
    refine ⟨rfl, ?_⟩
    repeat (first | exact Below.refl _ _ | refine Below.drew ?_ | refine bel_alloc ?_ _ | refine bel_then ?_ hb2 | refine bel_then ?_ hb1)
end Go.Proofs.YtcpldcojckhapaaGreat

set_option maxRecDepth 100000
namespace Go.Proofs.YtcpldcojckhapaaGreat
open Go.RowKit

theorem streamB_words (m u : Nat) (b : ByteArray) : wordsB [m, 0, b.size + 1] ++ (⟨#[UInt8.ofNat u]⟩ ++ b) = streamB m u b := by
  apply ByteArray.ext
  apply Array.toList_inj.1
  simp [streamB, wordsB, bytesOf, wordsI, twoB]
  refine ⟨?_, ?_, ?_, ?_⟩ <;> congr 1 <;> omega
set_option maxRecDepth 100000 in
set_option maxHeartbeats 1000000 in
theorem framed_stream (L i n m u : Nat) (b : ByteArray) (ln : Nat → Ln) (w : World) (hG : Grid w L 116 n 3 (fun a j => lnc (ln a) j)) (hi : i < n) (hk : (ln i).kind = 0) (hm : m < 65536) (hu : u < 256) (hb : b.size ≤ 253) :
    Calls Tryz.prog 82 #[.pointer (some ⟨L, i * 3, none⟩), .agg #[.int .i64 (m : Nat), .int .i64 (u : Nat), .string b]] w fun e w' => e = .returned (.string (streamB m u b)) ∧ Below w.heap.size w w' := by
  have c0 : w.cell? ⟨L, i * 3, none⟩ = some (.int .i64 0) := by have := hG.cell hi (j := 0) (by omega); rw [Nat.add_zero] at this; rw [this]; simp [lnc, hk]
  have hLl := hG.lt
  have c1 : ∀ (W : World) (g : Nat), W.cell? ⟨g, 0, none⟩ = some (.int .u8 (u : Int)) → (convert 114 9 (.slice (some ⟨g, 0, none⟩) 1 1)).run Tryz.prog W = .ok (.string ⟨#[UInt8.ofNat u]⟩) W := fun W g hc => conv1_at W g u hc
  have wu : IntKind.u8.wrap (u : Int) = (u : Int) := by rw [IntKind.wrap_u8]; omega
  have hlim : ¬ 9223372036854775807 < 1 + b.size := by omega
  have HE := hideF (streamB_words m u b)
  have hzw : (wordsB [m, 0, b.size + 1]).size = 6 := by rfl
  have z1 : ((⟨#[UInt8.ofNat u]⟩ : ByteArray) ++ b).size = 1 + b.size := by rw [ByteArray.size_append]; rfl
  have HZW := hideF hzw
  obtain ⟨X, hX⟩ : ∃ X, X = ((w.alloc (.cells #[.int .i64 (m : Nat), .int .i64 (u : Nat), .string b] 94)).alloc (.cells #[.int .u8 (u : Nat)] 5)).alloc (.cells #[.int .i64 (m : Nat), .int .i64 0, .int .i64 (1 + (b.size : Int))] 3) := ⟨_, rfl⟩
  have hXg : X.heap[w.heap.size + 1 + 1]? = some (.cells #[.int .i64 (m : Nat), .int .i64 0, .int .i64 (1 + (b.size : Int))] 3 (0, 0)) := by
    rw [hX]
    have := heap_alloc_new ((w.alloc (.cells #[.int .i64 (m : Nat), .int .i64 (u : Nat), .string b] 94)).alloc (.cells #[.int .u8 (u : Nat)] 5)) (.cells #[.int .i64 (m : Nat), .int .i64 0, .int .i64 (1 + (b.size : Int))] 3)
    simpa using this
  have HXb : Hid (Below w.heap.size w X) := by rw [hX]; exact bel_alloc (bel_alloc (bel_alloc (Below.refl w.heap.size w) _) _) _
  have HXg := hideF hXg
  have hXl := lt_of_block hXg
  clear hG hk hXg
  go_enter Tryz.func82, Tryz.ntmps82
  go_wp2_with fail
  rw [← hX]
  clear hX
  refine (words_any [m, 0, b.size + 1] 3 3 (w.heap.size + 1 + 1) 0 _ X rfl (by omega) (by intro x hx; simp at hx; rcases hx with rfl | rfl | rfl <;> omega) (by omega) (fun _ => rfl) (fun j x hj => by
    rw [Nat.zero_add, cell_of_row _ _ _ _ _ _ HXg.out]
    match j, hj with
    | 0, hj => simp at hj; subst hj; rfl
    | 1, hj => simp at hj; subst hj; rfl
    | 2, hj => simp at hj; subst hj; simp; omega)).mono ?_
  rintro e w1 ⟨rfl, hb1⟩
  have HB1 := hideF (bel_then HXb.out hb1)
  have hlim2 : ¬ 9223372036854775807 < 6 + (1 + b.size) := by omega
  clear hb1
  have hzw := HZW.out
  go_wp2
  go_ret
  exact ⟨by rw [← HE.out]; rfl, HB1.out⟩

theorem DevIn.waitIn {w : World} {d L S : Nat} {E : Nat → Nat} {wv : Value} {D : Dev} (h : DevIn w d L S E wv D) : WaitIn D.base w d (devC D L S E wv) wv D.wait := ⟨h.dev, rfl, rfl, h.wait, h.lo.1⟩
theorem DevIn.ofWait {w w' : World} {d L S : Nat} {E : Nat → Nat} {wv v : Value} {D : Dev} {l : List (Int × Int × ByteArray)} (h : DevIn w d L S E wv D) (hw : WaitIn D.base w' d ((devC D L S E wv).setIfInBounds 14 v) v l) (hf : FtT D.base wtT w w') : DevIn w' d L S E v { D with wait := l } := by
  obtain ⟨cl, hcl⟩ := h.lines.block
  refine ⟨hw.dev, h.lines.same (hf.keep L cl 116 hcl rfl), fun i hi => ?_, h.inj, (hf.keep S _ 155 h.store rfl).trans h.store, hw.own, h.lo⟩
  obtain ⟨ce, hce⟩ := (h.ent i hi).block
  exact (h.ent i hi).same (hf.keep (E i) ce 3 hce rfl)
theorem DevIn.cells {w : World} {d L S : Nat} {E : Nat → Nat} {wv : Value} {D : Dev} (h : DevIn w d L S E wv D) :
    w.cell? ⟨d, 0, none⟩ = some (.int .i64 (D.unit : Nat)) ∧ w.cell? ⟨d, 1, none⟩ = some (.int .i64 (D.batch : Nat)) ∧ w.cell? ⟨d, 2, none⟩ = some (.slice (some ⟨L, 0, none⟩) D.nl D.nl) ∧ w.cell? ⟨d, 11, none⟩ = some (.pointer (some ⟨S, 0, none⟩)) ∧ w.cell? ⟨d, 12, none⟩ = some (.int .i64 (D.arr : Nat)) ∧ w.cell? ⟨d, 13, none⟩ = some (.int .i64 (D.uns : Nat)) ∧ w.cell? ⟨d, 14, none⟩ = some wv ∧ (∀ j, w.frozen? ⟨d, j, none⟩ = false) ∧ d < w.heap.size :=
  ⟨by rw [cell_of_row _ _ _ _ _ _ h.dev]; rfl, by rw [cell_of_row _ _ _ _ _ _ h.dev]; rfl, by rw [cell_of_row _ _ _ _ _ _ h.dev]; rfl, by rw [cell_of_row _ _ _ _ _ _ h.dev]; rfl, by rw [cell_of_row _ _ _ _ _ _ h.dev]; rfl, by rw [cell_of_row _ _ _ _ _ _ h.dev]; rfl, by rw [cell_of_row _ _ _ _ _ _ h.dev]; rfl, fun j => frozen_of_row _ _ _ _ _ h.dev, lt_of_block h.dev⟩
theorem enter102 (x y : Value) (w : World) : (callFunc 117 #[x, y]).run Tryz.prog w = .ok (.enter 117 #[x, y]) w := by kernel_rfl
set_option maxRecDepth 100000 in
set_option maxHeartbeats 1000000 in
theorem dansw_now (d L S i : Nat) (E : Nat → Nat) (wv : Value) (D : Dev) (s : ByteArray) (w : World) (h : DevIn w d L S E wv D) (hu : D.uns = 0) :
    Calls Tryz.prog 81 #[.pointer (some ⟨d, 0, none⟩), .int .i64 (i : Nat), .string s] w fun e w' => ∃ v, e = .returned v ∧ w'.ownsRow w.heap.size 77 4 v 1 ([(2, 0, ((i : Nat) : Int), s)].flatMap encA) ∧ Below w.heap.size w w' := by
  obtain ⟨c0, c1, c2, c11, c12, c13, c14, cf, hdl⟩ := h.cells
  rw [hu] at c13
  clear h hu
  go_enter Tryz.func81, Tryz.ntmps81
  go_wp2_with fail
  refine (hsend_any ((D.arr : Int), ((i : Nat) : Int), s) _).mono ?_
  rintro e w1 ⟨rfl, hb1⟩
  have HB1 := hideF (bel_then (bel_alloc (Below.refl w.heap.size w) _) hb1)
  have hs1 := HB1.out.size
  clear hb1
  go_wp2
  go_ret
  refine ⟨_, rfl, ?_, bel_alloc HB1.out _⟩
  exact ⟨rfl, .inr ⟨w1.heap.size, 1, _, rfl, hs1, heap_alloc_new w1 _, Nat.le_refl _, by unfold maxLen; omega, rfl, rfl⟩⟩
set_option maxRecDepth 100000 in
set_option maxHeartbeats 1000000 in
theorem dansw_wait (d L S i : Nat) (E : Nat → Nat) (wv : Value) (D : Dev) (s : ByteArray) (w : World) (h : DevIn w d L S E wv D) (hu : 0 < D.uns) (hl : D.wait.length ≤ 1000) (hx : ∀ y ∈ D.wait, y.1 < (D.arr : Int)) :
    Calls Tryz.prog 81 #[.pointer (some ⟨d, 0, none⟩), .int .i64 (i : Nat), .string s] w fun e w' => ∃ v', e = .returned (.slice none 0 0) ∧ DevIn w' d L S E v' { D with wait := D.wait ++ [((D.arr : Int), ((i : Nat) : Int), s)] } ∧ FtT D.base wtT w w' := by
  obtain ⟨c0, c1, c2, c11, c12, c13, c14, cf, hdl⟩ := h.cells
  have hu' : (0 : Int) < (D.uns : Int) := by omega
  obtain ⟨X, hX⟩ : ∃ X, X = w.alloc (.cells #[.int .i64 (D.arr : Nat), .int .i64 (i : Nat), .string s] 163) := ⟨_, rfl⟩
  have hXb : Below w.heap.size w X := by rw [hX]; exact bel_alloc (Below.refl _ _) _
  have hXg : X.heap[w.heap.size]? = some (.cells #[.int .i64 (D.arr : Nat), .int .i64 (i : Nat), .string s] 163 (0, 0)) := by rw [hX]; exact heap_alloc_new w _
  obtain ⟨x0, x1, x2, xf⟩ := cells3f hXg
  have HXb := hideF hXb
  have HX := hideF hx
  have HH := hideF h
  have HW := hideF ((h.belowQ hXb).drewN 1).waitIn
  clear h hx hXb hXg
  go_enter Tryz.func81, Tryz.ntmps81
  go_wp2_with fail
  rw [← hX]
  clear hX
  go_region_with (go_at_call 117; refine (hadd_any d _ wv D.wait ((D.arr : Int), ((i : Nat) : Int), s) _ hl HW.out HX.out).mono ?_; rintro e w1 ⟨v', rfl, hw1, hf1⟩)
  all_goals
    have HD := hideF (DevIn.ofWait ((HH.out.belowQ HXb.out).drewN 1) hw1 hf1)
    have HF := hideF (((FtT.of_below (B := D.base) wtT HXb.out).drewN 1).trans hf1)
    clear hw1 hf1
    go_wp2
    go_ret
    exact ⟨_, rfl, HD.out, HF.out⟩
end Go.Proofs.YtcpldcojckhapaaGreat
