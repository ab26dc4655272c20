/-
  
-/
import Derived.Test.YtcpldcojckhapaaGreatJ25
import Derived.Test.YtcpldcojckhapaaGreatW6
import Derived.Test.YtcpldcojckhapaaGreatJ22
set_option maxRecDepth 100000
namespace Go.Proofs.YtcpldcojckhapaaGreat
open Go.RowKit
theorem set10_other (W : World) (g k : Nat) (h : k ≠ g) (a0 a1 a2 a3 a4 a5 a6 a7 a8 a9 : Value) : ((((((((((W.setCell ⟨g, 0, none⟩ a0).setCell ⟨g, 1, none⟩ a1).setCell ⟨g, 2, none⟩ a2).setCell ⟨g, 3, none⟩ a3).setCell ⟨g, 4, none⟩ a4).setCell ⟨g, 5, none⟩ a5).setCell ⟨g, 6, none⟩ a6).setCell ⟨g, 7, none⟩ a7).setCell ⟨g, 8, none⟩ a8).setCell ⟨g, 9, none⟩ a9).heap[k]? = W.heap[k]? := by
  rw [heap_setCell_other _ _ _ _ h, heap_setCell_other _ _ _ _ h, heap_setCell_other _ _ _ _ h, heap_setCell_other _ _ _ _ h, heap_setCell_other _ _ _ _ h, heap_setCell_other _ _ _ _ h, heap_setCell_other _ _ _ _ h, heap_setCell_other _ _ _ _ h, heap_setCell_other _ _ _ _ h, heap_setCell_other _ _ _ _ h]
theorem bel10 {w W : World} (h : Below w.heap.size w W) (a0 a1 a2 a3 a4 a5 a6 a7 a8 a9 : Value) : Below w.heap.size w ((((((((((W.setCell ⟨w.heap.size, 0, none⟩ a0).setCell ⟨w.heap.size, 1, none⟩ a1).setCell ⟨w.heap.size, 2, none⟩ a2).setCell ⟨w.heap.size, 3, none⟩ a3).setCell ⟨w.heap.size, 4, none⟩ a4).setCell ⟨w.heap.size, 5, none⟩ a5).setCell ⟨w.heap.size, 6, none⟩ a6).setCell ⟨w.heap.size, 7, none⟩ a7).setCell ⟨w.heap.size, 8, none⟩ a8).setCell ⟨w.heap.size, 9, none⟩ a9) :=
  (((((((((h.setCell (Nat.le_refl _) _).setCell (Nat.le_refl _) _).setCell (Nat.le_refl _) _).setCell (Nat.le_refl _) _).setCell (Nat.le_refl _) _).setCell (Nat.le_refl _) _).setCell (Nat.le_refl _) _).setCell (Nat.le_refl _) _).setCell (Nat.le_refl _) _).setCell (Nat.le_refl _) _
def reqV (s : ByteArray) (x : Pl.Shp) (v : Value) (k : Nat) : Value := .agg #[.string s, .int .i64 (x.fn : Nat), .int .i64 (x.tab : Nat), .int .i64 (x.frm : Nat), .int .i64 (x.cnt : Nat), .int .i64 (x.into : Nat), .int .i64 (x.to : Nat), .int .i64 (x.many : Nat), v, .int .u8 (k : Nat)]
set_option maxRecDepth 100000 in
set_option maxHeartbeats 1000000 in
theorem newRequest_any (s : ByteArray) (w : World) : Calls Tryz.prog 77 #[.string s] w fun e w' => ∃ (x : Pl.Shp) (v : Value) (k : Nat), e = .returned (reqV s x v k) /\ w'.ownsRow w.heap.size 3 1 v x.vals.length (x.vals.flatMap encI) /\ Pl.ShpIs s x k /\ x.vals.length <= 2000 /\ Below w.heap.size w w' := by
  obtain ⟨W, hW⟩ : ∃ W, W = w.alloc (.cells #[.string ⟨#[]⟩, .int .i64 0, .int .i64 0, .int .i64 0, .int .i64 0, .int .i64 0, .int .i64 0, .int .i64 0, .slice none 0 0, .int .u8 0] 146) := ⟨_, rfl⟩
  have hWb : Below w.heap.size w W := by rw [hW]; exact bel_alloc (Below.refl _ _) _
  have hWg : W.heap[w.heap.size]? = some (.cells #[.string ⟨#[]⟩, .int .i64 0, .int .i64 0, .int .i64 0, .int .i64 0, .int .i64 0, .int .i64 0, .int .i64 0, .slice none 0 0, .int .u8 0] 146 (0, 0)) := by rw [hW]; exact heap_alloc_new w _
  have hWs : W.heap.size = w.heap.size + 1 := by rw [hW]; simp
  have HWb := hideF hWb
  have HWg := hideF hWg
  clear hWb hWg
  go_enter Tryz.func77, Tryz.ntmps77
  go_wp2_with fail
  rw [<- hW]
  clear hW
  refine (shape_any s W).mono ?_
  rintro e w1 ⟨x, v, k, rfl, hown, hsh, hlen, hb1⟩
  unfold shV
  obtain ⟨ad, cp, rfl, _⟩ := own_view hown
  have hg1 := (hb1.block w.heap.size (by omega)).trans HWg.out
  have hs1 := hb1.size
  have HO := hideF hown
  have HSH := hideF hsh
  have HB1 := hideF (bel_then HWb.out hb1)
  have hc := fun j => cell_of_row w1 w.heap.size j _ _ _ hg1
  have hf := fun j => frozen_of_row w1 w.heap.size j _ _ hg1
  have c0 : w1.cell? ⟨w.heap.size, 0, none⟩ = some (.string ⟨#[]⟩) := hc 0
  have c1 : w1.cell? ⟨w.heap.size, 1, none⟩ = some (.int .i64 0) := hc 1
  have c2 : w1.cell? ⟨w.heap.size, 2, none⟩ = some (.int .i64 0) := hc 2
  have c3 : w1.cell? ⟨w.heap.size, 3, none⟩ = some (.int .i64 0) := hc 3
  have c4 : w1.cell? ⟨w.heap.size, 4, none⟩ = some (.int .i64 0) := hc 4
  have c5 : w1.cell? ⟨w.heap.size, 5, none⟩ = some (.int .i64 0) := hc 5
  have c6 : w1.cell? ⟨w.heap.size, 6, none⟩ = some (.int .i64 0) := hc 6
  have c7 : w1.cell? ⟨w.heap.size, 7, none⟩ = some (.int .i64 0) := hc 7
  have c8 : w1.cell? ⟨w.heap.size, 8, none⟩ = some (.slice none 0 0) := hc 8
  have c9 : w1.cell? ⟨w.heap.size, 9, none⟩ = some (.int .u8 0) := hc 9
  have hlt := lt_of_block hg1
  clear hown hsh hb1 hg1 hc
  go_wp2_with fail
  refine bodyPost_ret (v := reqV s x (.slice ad x.vals.length cp) k) (by unfold reqV; simp [results, Tryz.results77, go_sem, hlt, c0, c1, c2, c3, c4, c5, c6, c7, c8, c9]) rfl ?_
  refine ⟨x, _, k, rfl, ?_, HSH.out, hlen, ?_⟩
  . exact (own_same (own_base HO.out (by omega)) (fun g hg => set10_other _ _ _ (by have := (HO.out.lt g hg).1; omega) _ _ _ _ _ _ _ _ _ _)).alloc _
  . exact bel_alloc (bel10 HB1.out _ _ _ _ _ _ _ _ _ _) _
theorem DevIn.cellE {w : World} {d L S : Nat} {E : Nat -> Nat} {wv : Value} {D : Dev} (h : DevIn w d L S E wv D) {i : Nat} (hi : i < 4) : w.cell? ⟨d, 3 + i, none⟩ = some (.slice (some ⟨E i, 0, none⟩) (D.sz i) (D.sz i)) := by
  rw [cell_of_row _ _ _ _ _ _ h.dev]
  rcases (show i = 0 ∨ i = 1 ∨ i = 2 ∨ i = 3 by omega) with rfl | rfl | rfl | rfl <;> rfl
theorem DevIn.cellK {w : World} {d L S : Nat} {E : Nat -> Nat} {wv : Value} {D : Dev} (h : DevIn w d L S E wv D) {i : Nat} (hi : i < 4) : w.cell? ⟨d, 7 + i, none⟩ = some (.int .i64 (D.kp i : Nat)) := by
  rw [cell_of_row _ _ _ _ _ _ h.dev]
  rcases (show i = 0 ∨ i = 1 ∨ i = 2 ∨ i = 3 by omega) with rfl | rfl | rfl | rfl <;> rfl
def hasB (D : Dev) (x : Pl.Shp) : Bool := decide (x.frm + x.cnt <= D.sz x.tab) && decide (x.to + x.many <= D.sz x.into)
set_option maxRecDepth 100000 in
set_option maxHeartbeats 1000000 in
theorem has_any (d L S : Nat) (E : Nat -> Nat) (wv : Value) (D : Dev) (x : Pl.Shp) (v : Value) (n : Nat) (a : Option Addr) (c : Nat) (w : World) (h : DevIn w d L S E wv D) (ht : x.tab < 4) (hi : x.into < 4) (h1 : x.frm <= 100000) (h2 : x.cnt <= 100000) (h3 : x.to <= 100000) (h4 : x.many <= 100000) (hv : v = .slice a n c) :
    Calls Tryz.prog 114 #[.pointer (some ⟨d, 3, none⟩), shV x v] w fun e w' => e = .returned (.bool (hasB D x)) /\ Below w.heap.size w w' := by
  subst hv
  unfold shV hasB
  have e1 := h.cellE ht
  have e2 := h.cellE hi
  have hdl := lt_of_block h.dev
  have ht' : (x.tab : Int) < 4 := by omega
  have hi' : (x.into : Int) < 4 := by omega
  clear h
  by_cases g1 : x.frm + x.cnt <= D.sz x.tab
  . have g1' : (x.frm : Int) + (x.cnt : Int) <= (D.sz x.tab : Int) := by omega
    have d1 : decide (x.frm + x.cnt <= D.sz x.tab) = true := by simp [g1]
    rw [d1, Bool.true_and]
    clear d1
    by_cases g2 : x.to + x.many <= D.sz x.into
    . have g2' : (x.to : Int) + (x.many : Int) <= (D.sz x.into : Int) := by omega
      have d2 : decide (x.to + x.many <= D.sz x.into) = true := by simp [g2]
      rw [d2]
      clear d2
      go_enter Tryz.func114, Tryz.ntmps114
      go_wp2_with fail
      go_quiet (fail)
      go_wp2
      go_ret
      exact ⟨rfl, below_drewN (bel_alloc (Below.refl _ _) _) _⟩
    . have g2' : decide ((x.to : Int) + (x.many : Int) <= (D.sz x.into : Int)) = false := by simp; omega
      have d2 : decide (x.to + x.many <= D.sz x.into) = false := by simp; omega
      rw [d2]
      clear d2 g2
      go_enter Tryz.func114, Tryz.ntmps114
      go_wp2_with fail
      go_quiet (fail)
      go_wp2
      go_ret
      exact ⟨rfl, below_drewN (bel_alloc (Below.refl _ _) _) _⟩
  . have g1' : decide ((x.frm : Int) + (x.cnt : Int) <= (D.sz x.tab : Int)) = false := by simp; omega
    have d1 : decide (x.frm + x.cnt <= D.sz x.tab) = false := by simp; omega
    rw [d1, Bool.false_and]
    clear d1 g1
    go_enter Tryz.func114, Tryz.ntmps114
    go_wp2_with fail
    go_quiet (fail)
    go_wp2
    go_ret
    exact ⟨rfl, below_drewN (bel_alloc (Below.refl _ _) _) _⟩
end Go.Proofs.YtcpldcojckhapaaGreat

set_option maxRecDepth 100000
namespace Go.Proofs.YtcpldcojckhapaaGreat
open Go.RowKit
structure FtT (B : Nat) (T : Nat -> TypeId -> Bool) (w w' : World) : Prop where
  os : w'.os = w.os
  tape : w'.tape = w.tape
  output : w'.output = w.output
  size : w.heap.size <= w'.heap.size
  keep : ∀ (g : Nat) (cur : Array Value) (t : TypeId), w.heap[g]? = some (.cells cur t (0, 0)) -> T g t = false -> w'.heap[g]? = w.heap[g]?
  low : ∀ g, g < B -> g < w.heap.size -> w'.heap[g]? = w.heap[g]?
section
variable {B : Nat} {T : Nat -> TypeId -> Bool} {a b c w w' : World}
theorem FtT.refl (T : Nat -> TypeId -> Bool) (w : World) : FtT B T w w := ⟨rfl, rfl, rfl, Nat.le_refl _, fun _ _ _ _ _ => rfl, fun _ _ _ => rfl⟩
theorem FtT.trans (h : FtT B T a b) (h' : FtT B T b c) : FtT B T a c :=
  ⟨h'.os.trans h.os, h'.tape.trans h.tape, h'.output.trans h.output, Nat.le_trans h.size h'.size, fun g cur t hg ht => (h'.keep g cur t ((h.keep g cur t hg ht).trans hg) ht).trans (h.keep g cur t hg ht), fun g hg hs => (h'.low g hg (Nat.lt_of_lt_of_le hs h.size)).trans (h.low g hg hs)⟩
theorem FtT.of_below (T : Nat -> TypeId -> Bool) (h : Below w.heap.size w w') : FtT B T w w' := ⟨h.os, h.tape, h.output, h.size, fun g _ _ hg _ => h.block g (lt_of_block hg), fun g _ hs => h.block g hs⟩
theorem FtT.then_below (h : FtT B T a w) (h' : Below w.heap.size w w') : FtT B T a w' := h.trans (FtT.of_below T h')
theorem FtT.alloc (h : FtT B T a w) (o : Obj) : FtT B T a (w.alloc o) := h.then_below (bel_alloc (Below.refl _ _) _)
theorem FtT.drewN (h : FtT B T a w) (k : Nat) : FtT B T a (w.drewN k) := h.then_below (below_drewN (Below.refl _ _) _)
theorem ne_of_types {g k : Nat} {cur cur' : Array Value} {t t' : TypeId} (h : w.heap[g]? = some (.cells cur t (0, 0))) (h' : w.heap[k]? = some (.cells cur' t' (0, 0))) (ht : t ≠ t') : g ≠ k := fun e => by
  subst e
  rw [h] at h'
  simp only [Option.some.injEq, Obj.cells.injEq, and_true] at h'
  exact ht h'.2
theorem type_one {g : Nat} {cur cur' : Array Value} {t t' : TypeId} (h : w.heap[g]? = some (.cells cur t (0, 0))) (h' : w.heap[g]? = some (.cells cur' t' (0, 0))) : t = t' := by
  rw [h] at h'
  simp only [Option.some.injEq, Obj.cells.injEq, and_true] at h'
  exact h'.2
theorem FtT.setCell {g : Nat} {cur : Array Value} {t : TypeId} (h : FtT B T a w) (hg : w.heap[g]? = some (.cells cur t (0, 0))) (ht : T g t = true) (hB : B <= g) (k : Nat) (v : Value) : FtT B T a (w.setCell ⟨g, k, none⟩ v) :=
  h.trans ⟨rfl, rfl, rfl, by simp, fun g' cur' t' hg' ht' => heap_setCell_other w _ _ v (fun e => by
    have e : g' = g := e
    subst e
    rw [type_one hg' hg, ht] at ht'
    exact absurd ht' (by decide)), fun g' hg' _ => heap_setCell_other w _ _ v (by show g' ≠ g; omega)⟩
theorem FtT.grown {row : Option Nat} {t : TypeId} (h : FtT B T a w) (hg : w.grownBy w' row) (hr : ∀ k, row = some k -> B <= k /\ ∃ cur, w.heap[k]? = some (.cells cur t (0, 0))) (ht : ∀ k, T k t = true) : FtT B T a w' :=
  h.trans ⟨hg.os, hg.tape, hg.output, hg.size, fun g cur t' hg' ht' => hg.block g (lt_of_block hg') (fun e => by
    obtain ⟨_, cur', hc⟩ := hr g e.symm
    rw [type_one hg' hc, ht g] at ht'
    exact absurd ht' (by decide)), fun g hgB hgs => hg.block g hgs (fun e => by have := (hr g e.symm).1; omega)⟩
theorem FtT.mono {T' : Nat -> TypeId -> Bool} (h : FtT B T w w') (ht : ∀ g t, T' g t = false -> T g t = false) : FtT B T' w w' := ⟨h.os, h.tape, h.output, h.size, fun g cur t hg h' => h.keep g cur t hg (ht g t h'), h.low⟩
end
def wtT (d : Nat) (g : Nat) (t : TypeId) : Bool := (t == 110 && g == d) || t == 163
theorem wtT_d (d : Nat) : wtT d d 110 = true := by simp [wtT]
structure WaitIn (B : Nat) (w : World) (d : Nat) (cur : Array Value) (wv : Value) (l : List (Int × Int × ByteArray)) : Prop where
  dev : w.heap[d]? = some (.cells cur 110 (0, 0))
  size : cur.size = 15
  at14 : cur[14]? = some wv
  own : w.ownsRow B 163 3 wv l.length (l.flatMap encF)
  lo : B <= d
section
variable {B : Nat} {w w' : World} {d : Nat} {cur : Array Value} {wv : Value} {l : List (Int × Int × ByteArray)}
theorem WaitIn.cell (h : WaitIn B w d cur wv l) : w.cell? ⟨d, 14, none⟩ = some wv := by rw [cell_of_row _ _ _ _ _ _ h.dev]; exact h.at14
theorem WaitIn.fz (h : WaitIn B w d cur wv l) : w.frozen? ⟨d, 14, none⟩ = false := frozen_of_row _ _ _ _ _ h.dev
theorem WaitIn.below (h : WaitIn B w d cur wv l) (hb : Below w.heap.size w w') : WaitIn B w' d cur wv l :=
  ⟨(hb.block d (lt_of_block h.dev)).trans h.dev, h.size, h.at14, ownsRow_below h.own hb, h.lo⟩
theorem WaitIn.set (h : w.heap[d]? = some (.cells cur 110 (0, 0))) (hz : cur.size = 15) (hB : B <= d) {v : Value} {l' : List (Int × Int × ByteArray)} (ho : w.ownsRow B 163 3 v l'.length (l'.flatMap encF)) : WaitIn B (w.setCell ⟨d, 14, none⟩ v) d (cur.setIfInBounds 14 v) v l' := by
  refine ⟨heap_setCell_same w d 14 cur 110 v h, by rw [Array.size_setIfInBounds]; exact hz, by rw [Array.getElem?_setIfInBounds, if_pos rfl, if_pos (by rw [hz]; omega)], own_same ho fun g hg => ?_, hB⟩
  obtain ⟨c, hc⟩ := own_block ho g hg
  exact heap_setCell_other w _ _ v (ne_of_types hc h (by decide))
end
theorem Tryz.infoAns : (Tryz.prog.info? 163).map (fun i => (i.zero, i.size, i.bytes)) = some (some (.agg #[.int .i64 0, .int .i64 0, .string ⟨#[]⟩]), 3, 32) := by kernel_rfl
theorem flat_snoc (l : List (Int × Int × ByteArray)) (x : Int × Int × ByteArray) : (l ++ [x]).flatMap encF = l.flatMap encF ++ [.int .i64 x.1, .int .i64 x.2.1, .string x.2.2] := by rw [List.flatMap_append]; simp [encF]
theorem grown_dev {B : Nat} {w W w3 : World} {d : Nat} {cur : Array Value} {wv : Value} {l : List (Int × Int × ByteArray)} (h : WaitIn B w d cur wv l) (hg : W.grownBy w3 wv.ownBlock) (hW : W.heap[d]? = w.heap[d]?) : w3.heap[d]? = some (.cells cur 110 (0, 0)) := by
  rw [hg.block d (lt_of_block (hW.trans h.dev)) (fun e => by obtain ⟨c, hc⟩ := own_block h.own d e.symm; exact ne_of_types hc h.dev (by decide) rfl), hW]
  exact h.dev
theorem assertAns (x : Int × Int × ByteArray) (W : World) : (Instr.typeAssert (.iface 163 (.agg #[.int .i64 x.1, .int .i64 x.2.1, .string x.2.2])) 20 163 false).run Tryz.prog W = .ok (.agg #[.int .i64 x.1, .int .i64 x.2.1, .string x.2.2]) W := by kernel_rfl
set_option maxRecDepth 100000 in
set_option maxHeartbeats 1000000 in
theorem hpush_any {B : Nat} (d : Nat) (cur : Array Value) (wv : Value) (l : List (Int × Int × ByteArray)) (x : Int × Int × ByteArray) (w : World) (hl : l.length <= 1000) (h : WaitIn B w d cur wv l) :
    Calls Tryz.prog 197 #[.pointer (some ⟨d, 14, none⟩), .iface 163 (.agg #[.int .i64 x.1, .int .i64 x.2.1, .string x.2.2])] w fun e w' => ∃ v', e = .returned (.tuple #[]) /\ WaitIn B w' d (cur.setIfInBounds 14 v') v' (l ++ [x]) /\ FtT B (wtT d) w w' := by
  obtain ⟨i0, hi, hz0, hz1, hz2⟩ := info_parts Tryz.infoAns
  have c14 := h.cell
  have f14 := h.fz
  have hta := assertAns x
  have hdl := lt_of_block h.dev
  have HW := hideF h
  clear h
  go_enter Tryz.func197, Tryz.ntmps197
  go_wp2_with fail
  go_region_law (first
    | (refine step_append_own rfl (.tmp 7) (.tmp 10) 108 rfl B 163 i0 _ 3 32 Tryz.underlying108 hi hz0 hz1 hz2 rfl (by decide) wv l.length _ rfl ((own_same (w' := w.drew) HW.out.own (fun g _ => rfl)).alloc _) ⟨w.heap.size, 0, none⟩ 1 1 [.int .i64 x.1, .int .i64 x.2.1, .string x.2.2] rfl rfl (cell_three_new _ _ _ _ _) (by intro u hu; simp at hu; rcases hu with rfl | rfl | rfl <;> rfl) (by unfold maxLen; omega) (by omega) (by have := HW.out.lo; simp; omega) ?_; intro v' w3 hown3 hgrow3; obtain ⟨ad3, cp3, rfl, _⟩ := own_view hown3; have hd3 := grown_dev HW.out hgrow3 (heap_alloc_old w _ hdl); have c3 : w3.cell? ⟨d, 14, none⟩ = some wv := (by rw [cell_of_row _ _ _ _ _ _ hd3]; exact HW.out.at14); have f3 : w3.frozen? ⟨d, 14, none⟩ = false := frozen_of_row _ _ _ _ _ hd3))
  all_goals
    have HO3 := hideF hown3
    have HG3 := hideF hgrow3
    have HD3 := hideF hd3
    clear hown3 hgrow3 hd3
    go_wp2
    go_end0
    refine ⟨.slice ad3 (l.length + 1) cp3, rfl, ?_, ?_⟩
    . exact WaitIn.set HD3.out HW.out.size HW.out.lo (by rw [flat_snoc, List.length_append]; exact HO3.out)
    . exact ((((FtT.refl (wtT d) w).alloc _).drewN 1).grown HG3.out (fun k hk => ⟨(HW.out.own.lt k hk).1, by obtain ⟨c, hc⟩ := own_block HW.out.own k hk; exact ⟨c, (heap_alloc_old _ _ (lt_of_block hc)).trans hc⟩⟩) (fun _ => rfl)).setCell HD3.out (wtT_d _) HW.out.lo _ _
end Go.Proofs.YtcpldcojckhapaaGreat

set_option maxRecDepth 100000
namespace Go.Proofs.YtcpldcojckhapaaGreat
open Go.RowKit
theorem own_set {w : World} {B : Nat} {e : TypeId} {size n g p : Nat} {v u : Value} {xs : List Value} (h : w.ownsRow B e size v n xs) (hg : v.ownBlock = some g) (_hp : p < n * size) : (w.setCell ⟨g, p, none⟩ u).ownsRow B e size v n (xs.set p u) := by
  refine ⟨by rw [List.length_set]; exact h.1, ?_⟩
  rcases h.2 with ⟨rfl, _⟩ | ⟨g', cap, cur, rfl, hb, hh, h1, h2, h3, h4⟩
  . simp [Value.ownBlock] at hg
  . obtain rfl : g' = g := by simpa [Value.ownBlock] using hg
    refine .inr ⟨g', cap, cur.setIfInBounds p u, rfl, hb, heap_setCell_same w g' p cur e u hh, h1, h2, by rw [Array.size_setIfInBounds]; exact h3, ?_⟩
    rw [Array.toList_setIfInBounds, List.take_set, h4]
theorem encF_put (l : List (Int × Int × ByteArray)) (x : Int × Int × ByteArray) : ∀ i, i < l.length -> (((l.flatMap encF).set (i * 3) (.int .i64 x.1)).set (i * 3 + 1) (.int .i64 x.2.1)).set (i * 3 + 2) (.string x.2.2) = (l.set i x).flatMap encF := by
  induction l with
  | nil => intro i hi; exact absurd hi (Nat.not_lt_zero _)
  | cons y l ih =>
    intro i hi
    cases i with
    | zero => simp [encF]
    | succ i =>
      have := ih i (by simpa using hi)
      rw [List.flatMap_cons, show (i + 1) * 3 = (i * 3) + 1 + 1 + 1 by omega, List.set_cons_succ, List.flatMap_cons]
      unfold encF at this ⊢
      simp only [List.cons_append, List.nil_append, List.set_cons_succ]
      rw [<- this]
theorem own_put {w : World} {B g i n : Nat} {v : Value} {l : List (Int × Int × ByteArray)} (x : Int × Int × ByteArray) (h : w.ownsRow B 163 3 v n (l.flatMap encF)) (hn : n = l.length) (hg : v.ownBlock = some g) (hi : i < l.length) :
    (((w.setCell ⟨g, i * 3, none⟩ (.int .i64 x.1)).setCell ⟨g, i * 3 + 1, none⟩ (.int .i64 x.2.1)).setCell ⟨g, i * 3 + 2, none⟩ (.string x.2.2)).ownsRow B 163 3 v n ((l.set i x).flatMap encF) := by
  rw [<- encF_put l x i hi]
  exact own_set (own_set (own_set h hg (by omega)) hg (by omega)) hg (by omega)
theorem own_ans {w : World} {B : Nat} {v : Value} {l : List (Int × Int × ByteArray)} (h : w.ownsRow B 163 3 v l.length (l.flatMap encF)) {i : Nat} {x : Int × Int × ByteArray} (hx : l[i]? = some x) :
    ∃ g c, v = .slice (some ⟨g, 0, none⟩) l.length c /\ g < w.heap.size /\ w.cell? ⟨g, i * 3, none⟩ = some (.int .i64 x.1) /\ w.cell? ⟨g, i * 3 + 1, none⟩ = some (.int .i64 x.2.1) /\ w.cell? ⟨g, i * 3 + 2, none⟩ = some (.string x.2.2) := by
  obtain ⟨a, c, rfl, hat⟩ := own_view h
  have hi : i < l.length := (List.getElem?_eq_some_iff.1 hx).1
  have hxe : l[i] = x := (List.getElem?_eq_some_iff.1 hx).2
  obtain ⟨g, rfl, hg, hc⟩ := hat i hi
  refine ⟨g, c, rfl, hg, ?_, ?_, ?_⟩
  . have := flat_gen encF 3 (fun _ => rfl) l i 0 hi (by omega)
    rw [Nat.add_zero] at this
    rw [hc _ (by omega), this, hxe]; rfl
  . rw [hc _ (by omega), flat_gen encF 3 (fun _ => rfl) l i 1 hi (by omega), hxe]; rfl
  . rw [hc _ (by omega), flat_gen encF 3 (fun _ => rfl) l i 2 hi (by omega), hxe]; rfl
theorem own_fz {w : World} {B g c n : Nat} {e : TypeId} {size : Nat} {xs : List Value} (h : w.ownsRow B e size (.slice (some ⟨g, 0, none⟩) n c) n xs) (j : Nat) : w.frozen? ⟨g, j, none⟩ = false := by
  obtain ⟨cur, hc⟩ := own_block h g rfl
  exact frozen_of_row _ _ _ _ _ hc
set_option maxRecDepth 100000 in
set_option maxHeartbeats 1000000 in
theorem hlen_any (a : Option Addr) (n c : Nat) (w : World) : Calls Tryz.prog 88 #[.slice a n c] w fun e w' => e = .returned (.int .i64 (n : Nat)) /\ w' = w := by
  go_enter Tryz.func88, Tryz.ntmps88
  go_wp2
  go_ret
  exact ⟨rfl, rfl⟩
set_option maxRecDepth 100000 in
set_option maxHeartbeats 1000000 in
theorem hless_any (B i j : Nat) (v : Value) (l : List (Int × Int × ByteArray)) (x y : Int × Int × ByteArray) (b : Bool) (w : World) (h : w.ownsRow B 163 3 v l.length (l.flatMap encF)) (hx : l[i]? = some x) (hy : l[j]? = some y) (hb : decide (x.1 < y.1) = b) :
    Calls Tryz.prog 194 #[v, .int .i64 (i : Nat), .int .i64 (j : Nat)] w fun e w' => e = .returned (.bool b) /\ ∃ k, w' = w.drewN k := by
  obtain ⟨g, c, rfl, hg, a0, _, _⟩ := own_ans h hx
  obtain ⟨g', c', he, _, b0, _, _⟩ := own_ans h hy
  simp only [Value.slice.injEq, Option.some.injEq, Addr.mk.injEq, true_and, and_true] at he
  obtain ⟨rfl, rfl⟩ := he
  have hi : i < l.length := (List.getElem?_eq_some_iff.1 hx).1
  have hj : j < l.length := (List.getElem?_eq_some_iff.1 hy).1
  have hi' : (i : Int) < (l.length : Int) := by omega
  have hj' : (j : Int) < (l.length : Int) := by omega
  have HB := hideF hb
  clear h hx hy hb
  go_enter Tryz.func194, Tryz.ntmps194
  go_wp2_with fail
  go_quiet (fail)
  go_wp2
  go_ret
  exact ⟨rbool HB.out, _, rfl⟩
theorem own_drew {W : World} {B : Nat} {e : TypeId} {size n : Nat} {v : Value} {xs : List Value} (h : W.ownsRow B e size v n xs) : W.drew.ownsRow B e size v n xs := own_same h (fun _ _ => rfl)
theorem Chg1.drew {g : Nat} {a W : World} (h : Chg1 g a W) : Chg1 g a W.drew := h.drewN 1
theorem set_idle {w : World} {g p : Nat} {cur : Array Value} {t : TypeId} {v : Value} (h : w.heap[g]? = some (.cells cur t (0, 0))) (hc : w.cell? ⟨g, p, none⟩ = some v) : w.setCell ⟨g, p, none⟩ v = w := by
  have hp : cur[p]? = some v := by rw [cell_of_row _ _ _ _ _ _ h] at hc; exact hc
  have hcur : cur.setIfInBounds p v = cur := by
    apply Array.ext
    . simp
    . intro k h1 h2
      rw [Array.getElem_setIfInBounds]
      . split
        . rename_i e; subst e
          exact ((Array.getElem?_eq_some_iff.1 hp).2).symm
        . rfl
  have he : (w.setCell ⟨g, p, none⟩ v).heap = w.heap := by
    apply Array.ext_getElem?
    intro k
    by_cases hk : k = g
    . subst hk; rw [heap_setCell_same w k p cur t v h, hcur, h]
    . exact heap_setCell_other w _ _ v (by simpa using hk)
  have e : w.setCell ⟨g, p, none⟩ v = { w with heap := (w.setCell ⟨g, p, none⟩ v).heap } := rfl
  rw [e, he]
theorem set_far (w : World) (b o o1 o2 : Nat) (_h1 : o ≠ o1) (_h2 : o ≠ o2) (x z1 z2 y : Value) : (((w.setCell ⟨b, o, none⟩ x).setCell ⟨b, o1, none⟩ z1).setCell ⟨b, o2, none⟩ z2).setCell ⟨b, o, none⟩ y = ((w.setCell ⟨b, o1, none⟩ z1).setCell ⟨b, o2, none⟩ z2).setCell ⟨b, o, none⟩ y := by
  have he : ((((w.setCell ⟨b, o, none⟩ x).setCell ⟨b, o1, none⟩ z1).setCell ⟨b, o2, none⟩ z2).setCell ⟨b, o, none⟩ y).heap = (((w.setCell ⟨b, o1, none⟩ z1).setCell ⟨b, o2, none⟩ z2).setCell ⟨b, o, none⟩ y).heap := by
    apply Array.ext_getElem?
    intro k
    simp only [World.setCell, Array.getElem?_modify]
    by_cases hk : b = k
    . subst hk
      simp only [if_true]
      cases hw : w.heap[b]? with
      | none => simp
      | some ob =>
        cases ob <;> simp
        apply Array.ext_getElem?
        intro q
        simp only [Array.getElem?_setIfInBounds, Array.size_setIfInBounds]
        by_cases hq : o = q
        . subst hq; simp
        . simp [hq]
    . simp [hk]
  have e : ∀ W : World, (((w.setCell ⟨b, o, none⟩ x).setCell ⟨b, o1, none⟩ z1).setCell ⟨b, o2, none⟩ z2).setCell ⟨b, o, none⟩ y = { w with heap := ((((w.setCell ⟨b, o, none⟩ x).setCell ⟨b, o1, none⟩ z1).setCell ⟨b, o2, none⟩ z2).setCell ⟨b, o, none⟩ y).heap } := fun _ => rfl
  rw [e w, he]
  rfl
set_option maxRecDepth 100000 in
set_option maxHeartbeats 1000000 in
theorem hswap_ne (B i j g c : Nat) (l : List (Int × Int × ByteArray)) (x y : Int × Int × ByteArray) (w : World) (h : w.ownsRow B 163 3 (.slice (some ⟨g, 0, none⟩) l.length c) l.length (l.flatMap encF)) (hx : l[i]? = some x) (hy : l[j]? = some y) (hne : i ≠ j) :
    Calls Tryz.prog 195 #[.slice (some ⟨g, 0, none⟩) l.length c, .int .i64 (i : Nat), .int .i64 (j : Nat)] w fun e w' => e = .returned (.tuple #[]) /\ w'.ownsRow B 163 3 (.slice (some ⟨g, 0, none⟩) l.length c) l.length (((l.set i y).set j x).flatMap encF) /\ Chg1 g w w' := by
  obtain ⟨g1, c1, he, _, a0, a1, a2⟩ := own_ans h hx
  obtain ⟨g', c', he2, _, b0, b1, b2⟩ := own_ans h hy
  simp only [Value.slice.injEq, Option.some.injEq, Addr.mk.injEq, true_and, and_true] at he he2
  obtain ⟨rfl, rfl⟩ := he
  obtain ⟨rfl, rfl⟩ := he2
  have hi : i < l.length := (List.getElem?_eq_some_iff.1 hx).1
  have hj : j < l.length := (List.getElem?_eq_some_iff.1 hy).1
  have hi' : (i : Int) < (l.length : Int) := by omega
  have hj' : (j : Int) < (l.length : Int) := by omega
  have fz := own_fz h
  have HH := hideF h
  have n00 : j * 3 ≠ i * 3 := by omega
  have n01 : j * 3 ≠ i * 3 + 1 := by omega
  have n02 : j * 3 ≠ i * 3 + 2 := by omega
  have n10 : j * 3 + 1 ≠ i * 3 := by omega
  have n11 : j * 3 + 1 ≠ i * 3 + 1 := by omega
  have n12 : j * 3 + 1 ≠ i * 3 + 2 := by omega
  have n20 : j * 3 + 2 ≠ i * 3 := by omega
  have n21 : j * 3 + 2 ≠ i * 3 + 1 := by omega
  have n22 : j * 3 + 2 ≠ i * 3 + 2 := by omega
  clear h hx hy
  go_enter Tryz.func195, Tryz.ntmps195
  go_wp2_with fail
  go_region
  go_end0
  refine ⟨rfl, ?_, ?_⟩
  . have h1 := own_put y HH.out rfl rfl hi
    have h2 := own_put x (l := l.set i y) h1 (by simp) rfl (by simpa using hj)
    exact own_drew h2
  . exact (((((((Chg1.refl g w).setCell _ _).setCell _ _).setCell _ _).setCell _ _).setCell _ _).setCell _ _).drew
set_option maxRecDepth 100000 in
set_option maxHeartbeats 1000000 in
theorem hswap_same (B g c : Nat) (l : List (Int × Int × ByteArray)) (x : Int × Int × ByteArray) (w : World) (h : w.ownsRow B 163 3 (.slice (some ⟨g, 0, none⟩) l.length c) l.length (l.flatMap encF)) (hx : l[0]? = some x) :
    Calls Tryz.prog 195 #[.slice (some ⟨g, 0, none⟩) l.length c, .int .i64 0, .int .i64 0] w fun e w' => e = .returned (.tuple #[]) /\ w'.ownsRow B 163 3 (.slice (some ⟨g, 0, none⟩) l.length c) l.length (l.flatMap encF) /\ Chg1 g w w' := by
  obtain ⟨g1, c1, he, _, a0, a1, a2⟩ := own_ans h hx
  simp only [Value.slice.injEq, Option.some.injEq, Addr.mk.injEq, true_and, and_true] at he
  obtain ⟨rfl, rfl⟩ := he
  have hi : 0 < l.length := (List.getElem?_eq_some_iff.1 hx).1
  have hi' : (0 : Int) < (l.length : Int) := by omega
  have fz := own_fz h
  have HH := hideF h
  obtain ⟨cur, hcur⟩ := own_block h g rfl
  rw [show 0 * 3 = 0 from rfl] at a0 a1 a2
  have HI : Hid (w.setCell ⟨g, 0, none⟩ (.int .i64 x.1) = w /\ w.setCell ⟨g, 1, none⟩ (.int .i64 x.2.1) = w /\ w.setCell ⟨g, 2, none⟩ (.string x.2.2) = w) := ⟨set_idle hcur a0, set_idle hcur a1, set_idle hcur a2⟩
  have q0 : ∀ (W : World) (x1 x2 x3 x4 : Value), (((W.setCell ⟨g, 0, none⟩ x1).setCell ⟨g, 1, none⟩ x2).setCell ⟨g, 2, none⟩ x3).setCell ⟨g, 0, none⟩ x4 = ((W.setCell ⟨g, 1, none⟩ x2).setCell ⟨g, 2, none⟩ x3).setCell ⟨g, 0, none⟩ x4 := fun W x1 x2 x3 x4 => set_far W g 0 1 2 (by omega) (by omega) x1 x2 x3 x4
  have q1 : ∀ (W : World) (x1 x2 x3 x4 : Value), (((W.setCell ⟨g, 1, none⟩ x1).setCell ⟨g, 2, none⟩ x2).setCell ⟨g, 0, none⟩ x3).setCell ⟨g, 1, none⟩ x4 = ((W.setCell ⟨g, 2, none⟩ x2).setCell ⟨g, 0, none⟩ x3).setCell ⟨g, 1, none⟩ x4 := fun W x1 x2 x3 x4 => set_far W g 1 2 0 (by omega) (by omega) x1 x2 x3 x4
  have q2 : ∀ (W : World) (x1 x2 x3 x4 : Value), (((W.setCell ⟨g, 2, none⟩ x1).setCell ⟨g, 0, none⟩ x2).setCell ⟨g, 1, none⟩ x3).setCell ⟨g, 2, none⟩ x4 = ((W.setCell ⟨g, 0, none⟩ x2).setCell ⟨g, 1, none⟩ x3).setCell ⟨g, 2, none⟩ x4 := fun W x1 x2 x3 x4 => set_far W g 2 0 1 (by omega) (by omega) x1 x2 x3 x4
  clear h hx hcur
  go_enter Tryz.func195, Tryz.ntmps195
  go_wp2_with fail
  go_region
  go_end0
  rw [HI.out.1, HI.out.2.1, HI.out.2.2]
  exact ⟨rfl, own_drew HH.out, (Chg1.refl g w).drew⟩
end Go.Proofs.YtcpldcojckhapaaGreat

set_option maxRecDepth 100000
namespace Go.Proofs.YtcpldcojckhapaaGreat
open Go.RowKit
theorem own_short {w : World} {B g c n : Nat} {r : List (Int × Int × ByteArray)} {x : Int × Int × ByteArray} (h : w.ownsRow B 163 3 (.slice (some ⟨g, 0, none⟩) (r ++ [x]).length c) (r ++ [x]).length ((r ++ [x]).flatMap encF)) (hn : r.length = n) : w.ownsRow B 163 3 (.slice (some ⟨g, 0, none⟩) n c) r.length (r.flatMap encF) := by
  refine ⟨flat_len encF 3 (fun _ => rfl) r, ?_⟩
  rcases h.2 with ⟨he, _⟩ | ⟨g', cap, cur', hv, hb, hh, h1, h2, h3, h4⟩
  . simp at he
  . simp only [Value.slice.injEq, Option.some.injEq, Addr.mk.injEq, and_true, true_and] at hv
    obtain ⟨rfl, rfl⟩ := hv
    rw [List.length_append] at h1 h4
    refine .inr ⟨g, c, cur', by rw [hn], hb, hh, by omega, h2, h3, ?_⟩
    have e := congrArg (List.take (r.length * 3)) h4
    rw [List.take_take, Nat.min_eq_left (by omega), List.flatMap_append, List.take_append_of_le_length (by rw [flat_len encF 3 (fun _ => rfl) r]; omega)] at e
    rw [e, List.take_of_length_le (by rw [flat_len encF 3 (fun _ => rfl) r]; omega)]
set_option maxRecDepth 100000 in
set_option maxHeartbeats 1000000 in
theorem hpopm_any {B : Nat} (d n : Nat) (cur : Array Value) (wv : Value) (r : List (Int × Int × ByteArray)) (x : Int × Int × ByteArray) (w : World) (hn : r.length = n) (hl : n <= 1000) (h : WaitIn B w d cur wv (r ++ [x])) :
    Calls Tryz.prog 196 #[.pointer (some ⟨d, 14, none⟩)] w fun e w' => ∃ v', e = .returned (.iface 163 (.agg #[.int .i64 x.1, .int .i64 x.2.1, .string x.2.2])) /\ WaitIn B w' d (cur.setIfInBounds 14 v') v' r /\ FtT B (wtT d) w w' := by
  have c14 := h.cell
  have f14 := h.fz
  have hdl := lt_of_block h.dev
  obtain ⟨g, c, rfl, hg, a0, a1, a2⟩ := own_ans h.own (i := n) (x := x) (by rw [<- hn]; simp)
  have hz : (r ++ [x]).length = n + 1 := by rw [List.length_append, hn]; rfl
  have hcn : n + 1 <= c := by
    rcases h.own.2 with ⟨he, _⟩ | ⟨g', cap, cur', hv, hb, hh, h1, h2, h3, h4⟩
    . simp at he
    . simp only [Value.slice.injEq] at hv
      omega
  rw [hz] at c14
  have HW := hideF h
  have HS := hideF (own_short h.own hn)
  clear h hn hz
  go_enter Tryz.func196, Tryz.ntmps196
  go_wp2_with fail
  go_ret
  refine ⟨_, rfl, (WaitIn.set HW.out.dev HW.out.size HW.out.lo HS.out).below (bel_alloc (Below.refl _ _) _), ?_⟩
  exact ((FtT.refl (wtT d) w).setCell HW.out.dev (wtT_d _) HW.out.lo _ _).alloc _
theorem mrow (nm : String) (f : FuncId) (h : ((Tryz.prog.info? 160).bind fun I => (I.methods.find? (·.name == nm)).map fun m => (m.path.toList.isEmpty, m.func)) = some (true, some (f, false))) (p : Addr) (v : Value) (W : World) (hl : (loadVar 108 p).run Tryz.prog W = .ok v W) :
    (method 372 160 (.pointer (some p)) nm).run Tryz.prog W = .ok (f, v) W := by
  obtain ⟨I, hI, hm⟩ := Option.bind_eq_some_iff.1 h
  obtain ⟨m, hm1, hm2⟩ := Option.map_eq_some_iff.1 hm
  obtain ⟨hp, hf⟩ := Prod.mk.inj hm2
  have hp' : m.path.toList = [] := List.isEmpty_iff.1 hp
  have hp2 : m.path = #[] := Array.toList_eq_nil_iff.1 hp'
  have hu := run_underlying (P := Tryz.prog) Tryz.underlying160 W
  have hw : ∀ s : String, (Builtin.ssaWrapNilChk_ #[160] 160 #[.pointer (some p), strVal "", strVal s]).run Tryz.prog W = .ok (.pointer (some p)) W := fun s => rfl
  unfold method
  simp [typeInfo, hI, hm1, hp2, follow, hf, receiverAt, hu, Place.get, hw, asAddr, hl, Result.andThen]
theorem mrowAt (nm : String) (f : FuncId) (h : ((Tryz.prog.info? 160).bind fun I => (I.methods.find? (·.name == nm)).map fun m => (m.path.toList.isEmpty, m.func)) = some (true, some (f, false))) (d n c : Nat) (a : Option Addr) (W : World) (hc : W.cell? ⟨d, 14, none⟩ = some (.slice a n c)) :
    (method 372 160 (.pointer (some ⟨d, 14, none⟩)) nm).run Tryz.prog W = .ok (f, .slice a n c) W := mrow nm f h _ _ W (by simp [go_sem, loadVar, hc])
theorem mthLen (d n c : Nat) (a : Option Addr) (W : World) (hc : W.cell? ⟨d, 14, none⟩ = some (.slice a n c)) : (method 372 160 (.pointer (some ⟨d, 14, none⟩)) "Len").run Tryz.prog W = .ok (88, .slice a n c) W := mrowAt "Len" 88 (by kernel_rfl) d n c a W hc
theorem mthLess (d n c : Nat) (a : Option Addr) (W : World) (hc : W.cell? ⟨d, 14, none⟩ = some (.slice a n c)) : (method 372 160 (.pointer (some ⟨d, 14, none⟩)) "Less").run Tryz.prog W = .ok (194, .slice a n c) W := mrowAt "Less" 194 (by kernel_rfl) d n c a W hc
theorem mthSwap (d n c : Nat) (a : Option Addr) (W : World) (hc : W.cell? ⟨d, 14, none⟩ = some (.slice a n c)) : (method 372 160 (.pointer (some ⟨d, 14, none⟩)) "Swap").run Tryz.prog W = .ok (195, .slice a n c) W := mrowAt "Swap" 195 (by kernel_rfl) d n c a W hc
theorem mthPush (p : Option Addr) (W : World) : (method 372 160 (.pointer p) "Push").run Tryz.prog W = .ok (197, .pointer p) W := by kernel_rfl
theorem mthPop (p : Option Addr) (W : World) : (method 372 160 (.pointer p) "Pop").run Tryz.prog W = .ok (196, .pointer p) W := by kernel_rfl
set_option maxRecDepth 100000 in
set_option maxHeartbeats 1000000 in
theorem up_zero (d n c : Nat) (a : Option Addr) (w : World) (_h : w.cell? ⟨d, 14, none⟩ = some (.slice a n c)) :
    Calls Tryz.prog 169 #[.iface 160 (.pointer (some ⟨d, 14, none⟩)), .int .i64 0] w fun e w' => e = .returned (.tuple #[]) /\ w' = w := by
  go_enter Tryz.func169, Tryz.ntmps169
  go_wp2_with fail
  go_loopw [1] (fun j wr => j = .int .i64 0 /\ wr = w) (fun _ _ => 0)
  case atStart => exact ⟨rfl, rfl⟩
  case round =>
    obtain ⟨rfl, rfl⟩ := hrel
    go_wp2_with fail
    go_end0
    exact ⟨rfl, rfl⟩
set_option maxRecDepth 100000 in
set_option maxHeartbeats 1000000 in
theorem up_pos (d m B : Nat) (v : Value) (l : List (Int × Int × ByteArray)) (x y : Int × Int × ByteArray) (w : World) (hc : w.cell? ⟨d, 14, none⟩ = some v) (h : w.ownsRow B 163 3 v l.length (l.flatMap encF)) (hx : l[m + 1]? = some x) (hy : l[m / 2]? = some y) (hb : decide (x.1 < y.1) = false) (hm : m <= 100000) :
    Calls Tryz.prog 169 #[.iface 160 (.pointer (some ⟨d, 14, none⟩)), .int .i64 ((m : Int) + 1)] w fun e w' => e = .returned (.tuple #[]) /\ ∃ k, w' = w.drewN k := by
  have hL := hless_any B (m + 1) (m / 2) v l x y false w h hx hy hb
  obtain ⟨a, c, rfl, _⟩ := own_view h
  have m1 := mthLess d l.length c a w hc
  have ne : ((m : Int) / 2 == (m : Int) + 1) = false := by rw [beq_eq_false_iff_ne]; omega
  have e1 : ((m + 1 : Nat) : Int) = (m : Int) + 1 := by omega
  have e2 : ((m / 2 : Nat) : Int) = (m : Int) / 2 := by omega
  rw [e1, e2] at hL
  have HL := hideF hL
  clear hL hx hy hb h e1 e2
  go_enter Tryz.func169, Tryz.ntmps169
  go_wp2_with fail
  go_loopw [1] (fun j wr => j = .int .i64 ((m : Int) + 1) /\ wr = w) (fun _ _ => 0)
  case atStart => exact ⟨rfl, rfl⟩
  case round =>
    obtain ⟨rfl, rfl⟩ := hrel
    go_wp2_with fail
    refine HL.out.mono ?_
    rintro e w1 ⟨rfl, k, rfl⟩
    go_wp2_with fail
    go_end0
    exact ⟨rfl, k, rfl⟩
theorem up_last {B : Nat} (d : Nat) (cur : Array Value) (v : Value) (l : List (Int × Int × ByteArray)) (x : Int × Int × ByteArray) (w : World) (hl : l.length <= 1000) (h : WaitIn B w d cur v (l ++ [x])) (hx : ∀ y ∈ l, y.1 < x.1) :
    Calls Tryz.prog 169 #[.iface 160 (.pointer (some ⟨d, 14, none⟩)), .int .i64 (l.length : Nat)] w fun e w' => e = .returned (.tuple #[]) /\ ∃ k, w' = w.drewN k := by
  cases hn : l.length with
  | zero =>
    obtain ⟨a, c, rfl, _⟩ := own_view h.own
    exact (up_zero d _ c a w h.cell).mono fun e w' h => ⟨h.1, 0, h.2⟩
  | succ m =>
    have h1 : (l ++ [x])[m + 1]? = some x := by rw [<- hn]; simp
    have h2 : (l ++ [x])[m / 2]? = some l[m / 2] := by rw [List.getElem?_append_left (by omega)]; exact List.getElem?_eq_getElem (by omega)
    have h3 := hx l[m / 2] (List.getElem_mem (by omega))
    have := up_pos d m B v (l ++ [x]) x _ w h.cell h.own h1 h2 (by simp; omega) (by omega)
    rwa [show ((m + 1 : Nat) : Int) = (m : Int) + 1 by omega]
theorem WaitIn.drewN {B : Nat} {w : World} {d : Nat} {cur : Array Value} {wv : Value} {l : List (Int × Int × ByteArray)} (h : WaitIn B w d cur wv l) (k : Nat) : WaitIn B (w.drewN k) d cur wv l := h.below (below_drewN (Below.refl _ _) _)
set_option maxRecDepth 100000 in
set_option maxHeartbeats 1000000 in
theorem heapPush_any {B : Nat} (d : Nat) (cur : Array Value) (wv : Value) (l : List (Int × Int × ByteArray)) (x : Int × Int × ByteArray) (w : World) (hl : l.length <= 1000) (h : WaitIn B w d cur wv l) (hx : ∀ y ∈ l, y.1 < x.1) :
    Calls Tryz.prog 146 #[.iface 160 (.pointer (some ⟨d, 14, none⟩)), .iface 163 (.agg #[.int .i64 x.1, .int .i64 x.2.1, .string x.2.2])] w fun e w' => ∃ v', e = .returned (.tuple #[]) /\ WaitIn B w' d (cur.setIfInBounds 14 v') v' (l ++ [x]) /\ FtT B (wtT d) w w' := by
  have m1 := mthPush (some ⟨d, 14, none⟩)
  have HX := hideF hx
  have HW := hideF h
  clear hx h
  go_enter Tryz.func146, Tryz.ntmps146
  go_wp2_with fail
  refine (hpush_any d cur wv l x w hl HW.out).mono ?_
  rintro e w1 ⟨v', rfl, hw1, hf1⟩
  obtain ⟨a, c, hv', _⟩ := own_view hw1.own
  rw [List.length_append] at hv'
  have c14 := hw1.cell
  have HW1 := hideF hw1
  have HF1 := hideF hf1
  clear hw1 hf1
  subst hv'
  have m2 := mthLen d _ c a w1 c14
  go_wp2_with fail
  refine (hlen_any _ _ _ _).mono ?_
  rintro e w2 ⟨rfl, rfl⟩
  go_wp2_with fail
  refine (up_last d _ _ l x _ hl HW1.out HX.out).mono ?_
  rintro e w3 ⟨rfl, k, rfl⟩
  go_wp2
  go_end0
  exact ⟨_, rfl, HW1.out.drewN k, HF1.out.drewN k⟩
set_option maxRecDepth 100000 in
set_option maxHeartbeats 1000000 in
theorem hadd_any {B : Nat} (d : Nat) (cur : Array Value) (wv : Value) (l : List (Int × Int × ByteArray)) (x : Int × Int × ByteArray) (w : World) (hl : l.length <= 1000) (h : WaitIn B w d cur wv l) (hx : ∀ y ∈ l, y.1 < x.1) :
    Calls Tryz.prog 117 #[.pointer (some ⟨d, 14, none⟩), .agg #[.int .i64 x.1, .int .i64 x.2.1, .string x.2.2]] w fun e w' => ∃ v', e = .returned (.tuple #[]) /\ WaitIn B w' d (cur.setIfInBounds 14 v') v' (l ++ [x]) /\ FtT B (wtT d) w w' := by
  have HW := hideF (h.below (bel_alloc (Below.refl _ _) (.cells #[.int .i64 x.1, .int .i64 x.2.1, .string x.2.2] 163)))
  have HF := hideF ((FtT.refl (B := B) (wtT d) w).alloc (.cells #[.int .i64 x.1, .int .i64 x.2.1, .string x.2.2] 163))
  have HX := hideF hx
  clear hx h
  go_enter Tryz.func117, Tryz.ntmps117
  go_wp2_with fail
  refine (heapPush_any d cur wv l x _ hl HW.out HX.out).mono ?_
  rintro e w1 ⟨v', rfl, hw1, hf1⟩
  have HW1 := hideF hw1
  have HF1 := hideF (HF.out.trans hf1)
  clear hw1 hf1
  go_wp2
  go_end0
  exact ⟨_, rfl, HW1.out, HF1.out⟩
end Go.Proofs.YtcpldcojckhapaaGreat
