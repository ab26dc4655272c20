/-
  tables.write: what it writes, and what it answers.
  tables.kept, where no coil is kept: what it answers.
-/
import Derived.Test.YtcpldcojckhapaaGreatQ1
import Derived.Test.YtcpldcojckhapaaGreatJ28
import Derived.Test.YtcpldcojckhapaaGreatJ15
import Derived.Test.YtcpldcojckhapaaGreatJ11
set_option maxRecDepth 100000
namespace Go.Proofs.YtcpldcojckhapaaGreat
open Go.RowKit

theorem splice_at {α : Type} (L : List α) (off : Nat) (cs : List α) (h : off + cs.length ≤ L.length) (k : Nat) : (splice L off cs)[k]? = if off ≤ k ∧ k < off + cs.length then cs[k - off]? else L[k]? := by
  unfold splice
  by_cases h1 : k < off
  · rw [if_neg (by omega), List.getElem?_append_left (by rw [List.length_take]; omega), List.getElem?_take_of_lt h1]
  · rw [List.getElem?_append_right (by rw [List.length_take]; omega), List.length_take, Nat.min_eq_left (by omega)]
    by_cases h2 : k < off + cs.length
    · rw [if_pos ⟨by omega, h2⟩, List.getElem?_append_left (by omega)]
    · rw [if_neg (by omega), List.getElem?_append_right (by omega), List.getElem?_drop, show off + cs.length + (k - off - cs.length) = k by omega]
/-- The entries behind a request that sets some. -/
def entW (D : Dev) (x : Pl.Shp) (i k : Nat) : Int := if i = x.into ∧ x.to ≤ k ∧ k < x.to + x.vals.length then x.vals.getD (k - x.to) 0 else D.ent i k
theorem DevIn.belowQ {w w' : World} {d L S : Nat} {E : Nat → Nat} {wv : Value} {D : Dev} (h : DevIn w d L S E wv D) (hb : Below w.heap.size w w') : DevIn w' d L S E wv D :=
  ⟨(hb.block d (lt_of_block h.dev)).trans h.dev, h.lines.below hb h.lines.lt, fun i hi => (h.ent i hi).below hb (h.ent i hi).lt, h.inj, (hb.block S (lt_of_block h.store)).trans h.store, ownsRow_below h.wait hb, h.lo⟩
theorem DevIn.drewN {w : World} {d L S : Nat} {E : Nat → Nat} {wv : Value} {D : Dev} (h : DevIn w d L S E wv D) (k : Nat) : DevIn (w.drewN k) d L S E wv D := h.belowQ (below_drewN (Below.refl _ _) _)
theorem DevIn.put {w w' : World} {d L S : Nat} {E : Nat → Nat} {wv : Value} {D : Dev} (h : DevIn w d L S E wv D) {j : Nat} (hj : j < 4) {f : Nat → Nat → Int} (hc : Chg1 (E j) w w') (hG : Grid w' (E j) 3 (D.sz j) 1 (fun k _ => .int .i64 (f j k))) (hf : ∀ i k, i ≠ j → f i k = D.ent i k) :
    DevIn w' d L S E wv { D with ent := f } := by
  obtain ⟨ce, hce⟩ := (h.ent j hj).block
  obtain ⟨cl, hcl⟩ := h.lines.block
  refine ⟨(hc.block d (lt_of_block h.dev) (ne_of_types h.dev hce (by decide))).trans h.dev, h.lines.same (hc.block L (lt_of_block hcl) (ne_of_types hcl hce (by decide))), fun i hi => ?_, h.inj, (hc.block S (lt_of_block h.store) (ne_of_types h.store hce (by decide))).trans h.store, own_same h.wait (fun g hg => ?_), h.lo⟩
  · by_cases e : i = j
    · subst e; exact hG
    · refine ((h.ent i hi).same (hc.block (E i) (h.ent i hi).lt (h.inj i j hi hj e))).congr fun a b _ _ => ?_
      show Value.int .i64 (D.ent i a) = Value.int .i64 (f i a)
      rw [hf i a e]
  · obtain ⟨cg, hcg⟩ := own_block h.wait g hg
    exact hc.block g (lt_of_block hcg) (ne_of_types hcg hce (by decide))
theorem grid_splice {w : World} {g s : Nat} {cur : Array Value} {f : Nat → Int} {off : Nat} {vs : List Int} (hcs : cur.size = s) (hcv : ∀ k, k < s → cur[k]? = some (.int .i64 (f k))) (hfit : off + vs.length ≤ s) (hg : w.heap[g]? = some (.cells (splice cur.toList off (vs.flatMap encI)).toArray 3 (0, 0))) :
    Grid w g 3 s 1 (fun k _ => .int .i64 (if off ≤ k ∧ k < off + vs.length then vs.getD (k - off) 0 else f k)) := by
  have hl : (vs.flatMap encI).length = vs.length := by rw [encI_len, Nat.mul_one]
  have hfit' : off + (vs.flatMap encI).length ≤ cur.toList.length := by rw [hl]; have := Array.length_toList (xs := cur); omega
  refine ⟨_, hg, by rw [List.size_toArray, length_splice _ _ _ hfit', Array.length_toList, hcs, Nat.mul_one], fun i j hi hj => ?_⟩
  obtain rfl : j = 0 := by omega
  rw [Nat.mul_one, Nat.add_zero, List.getElem?_toArray, splice_at _ _ _ hfit', hl]
  by_cases e : off ≤ i ∧ i < off + vs.length
  · have hlt : i - off < vs.length := by omega
    rw [if_pos e, encI_at vs (i - off) vs[i - off] (List.getElem?_eq_getElem hlt)]
    show _ = some (Value.int .i64 (if off ≤ i ∧ i < off + vs.length then vs.getD (i - off) 0 else f i))
    rw [if_pos e, List.getD_eq_getElem?_getD, List.getElem?_eq_getElem hlt]
    rfl
  · rw [if_neg e, Array.getElem?_toList, hcv i hi]
    show _ = some (Value.int .i64 (if off ≤ i ∧ i < off + vs.length then vs.getD (i - off) 0 else f i))
    rw [if_neg e]

set_option maxRecDepth 100000 in
set_option maxHeartbeats 1000000 in
theorem write_copy (d L S B : Nat) (E : Nat → Nat) (wv : Value) (D : Dev) (x : Pl.Shp) (v : Value) (b : Bool) (w : World) (h : DevIn w d L S E wv D) (hi : x.into < 4) (hf : x.fn ≠ 22) (hv : w.ownsRow B 3 1 v x.vals.length (x.vals.flatMap encI)) (hfit : x.to + x.vals.length ≤ D.sz x.into) (hm : x.many ≤ 100000)
    (hb : b = (decide (0 < x.many) && decide (x.to < D.kp x.into))) :
    Calls Tryz.prog 115 #[.pointer (some ⟨d, 3, none⟩), shV x v] w fun e w' => e = .returned (.bool b) ∧ DevIn w' d L S E wv { D with ent := entW D x } ∧ Chg1 (E x.into) w w' := by
  obtain ⟨a, c, rfl, _⟩ := own_view hv
  unfold shV
  have e2 := h.cellE hi
  have k2 := h.cellK hi
  have hdl := lt_of_block h.dev
  have hi' : (x.into : Int) < 4 := by omega
  have hf' : ((x.fn : Int) == 22) = false := by rw [beq_eq_false_iff_ne]; omega
  obtain ⟨cur, hcur, hcs, hcv⟩ := h.ent x.into hi
  rw [Nat.mul_one] at hcs
  have hEl := lt_of_block hcur
  have hcv' : ∀ k, k < D.sz x.into → cur[k]? = some (.int .i64 (D.ent x.into k)) := fun k hk => by have := hcv k 0 hk (by omega); rwa [Nat.mul_one, Nat.add_zero] at this
  have HCU : Hid (w.heap[E x.into]? = some (.cells cur.toList.toArray 3 (0, 0))) := by show _ = _; rw [Array.toArray_toList]; exact hcur
  have HCV := hideF hcv'
  have HCS := hideF hcs
  have HV := hideF hv
  have HH := hideF h
  have HB := hideF hb
  have hto : (x.to : Int) ≤ (D.sz x.into : Int) := by omega
  clear h hv hcv hcv' hcur hcs hf hb
  go_enter Tryz.func115, Tryz.ntmps115
  go_wp2_with fail
  go_quiet (fail)
  go_wp2_with fail
  obtain ⟨X, hX⟩ : ∃ X, X = (w.alloc (.cells #[.int .i64 (x.fn : Nat), .int .i64 (x.tab : Nat), .int .i64 (x.frm : Nat), .int .i64 (x.cnt : Nat), .int .i64 (x.into : Nat), .int .i64 (x.to : Nat), .int .i64 (x.many : Nat), .slice a x.vals.length c] 144)).drewN nq := ⟨_, rfl⟩
  have hXb : Below w.heap.size w X := by rw [hX]; exact below_drewN (bel_alloc (Below.refl _ _) _) _
  have hXg : X.heap[w.heap.size]? = some (.cells #[.int .i64 (x.fn : Nat), .int .i64 (x.tab : Nat), .int .i64 (x.frm : Nat), .int .i64 (x.cnt : Nat), .int .i64 (x.into : Nat), .int .i64 (x.to : Nat), .int .i64 (x.many : Nat), .slice a x.vals.length c] 144 (0, 0)) := by rw [hX]; exact heap_alloc_new w _
  obtain ⟨y0, y1, y2, y3, y4, y5, y6, y7, y8⟩ := cells8 hXg
  have HXb := hideF hXb
  have HXg := hideF hXg
  have HXE := hideF ((hXb.block (E x.into) hEl).trans HCU.out)
  have HXV := hideF (ownsRow_below HV.out hXb)
  rw [← hX]
  clear hX hXb hXg e2
  have hmin : (x.vals.flatMap encI).length = Nat.min x.vals.length (D.sz x.into - x.to) := by rw [encI_len, Nat.mul_one]; exact (Nat.min_eq_left (by omega)).symm
  have hcl := Array.length_toList (xs := cur)
  have HMIN := hideF hmin
  have HCL := hideF hcl
  clear hmin hcl
  go_region_law (first
    | (refine step_copy_row rfl (.tmp 44) (.tmp 46) 28 28 rfl 3 Tryz.underlying28 Tryz.sizeInt _ _ _ _ _ _ rfl rfl (E x.into) x.to cur.toList 3 HXE.out (x.vals.flatMap encI) HMIN.out (fun hp => ⟨if_neg (by rw [encI_len, Nat.mul_one] at hp; omega), own_src (own_same (w' := X.drew) HXV.out (fun _ _ => rfl)) (by rw [encI_len, Nat.mul_one] at hp; exact hp)⟩) (by rw [encI_len, Nat.mul_one, HCL.out, HCS.out]; exact hfit) (encI_one _) ?_; intro w3 hg3 ho3))
  all_goals
    have hdE : d ≠ E x.into := ne_of_types HH.out.dev (show w.heap[E x.into]? = _ from HCU.out) (by decide)
    have hd3 := (ho3.block d hdE).trans ((HXb.out.block d hdl).trans HH.out.dev)
    have hg3' := (ho3.block w.heap.size (by omega)).trans HXg.out
    have k3 : w3.cell? ⟨d, 7 + x.into, none⟩ = some (.int .i64 (D.kp x.into : Nat)) := by
      rw [cell_of_row _ _ _ _ _ _ hd3, ← cell_of_row _ _ _ _ _ _ HH.out.dev]; exact k2
    obtain ⟨z0, z1, z2, z3, z4, z5, z6, z7, z8⟩ := cells8 hg3'
    have HC3 : Hid (Chg1 (E x.into) w w3) := ⟨ho3.os.trans HXb.out.os, ho3.tape.trans HXb.out.tape, ho3.output.trans HXb.out.output, Nat.le_trans HXb.out.size (Nat.le_of_eq ho3.size.symm), fun k hk hne => (ho3.block k hne).trans (HXb.out.block k hk)⟩
    have HG3 := hideF (grid_splice HCS.out HCV.out hfit hg3.out)
    have HD3 : Hid (DevIn w3 d L S E wv { D with ent := entW D x }) := HH.out.put hi HC3.out (HG3.out.congr fun i _ _ _ => by simp [entW]) (fun i k hne => by simp [entW, hne])
    clear hd3 hg3' ho3 hg3 y0 y1 y2 y3 y4 y5 y6 y7 y8 k2 HG3 HXE HXV
    by_cases m0 : 0 < x.many
    · have m0' : (0 : Int) < (x.many : Int) := by omega
      by_cases m1 : x.to < D.kp x.into
      · have m1' : (x.to : Int) < (D.kp x.into : Int) := by omega
        go_wp2_with fail
        all_goals
          go_quiet (fail)
          go_wp2
          go_ret
          refine ⟨?_, HD3.out.drewN _, HC3.out.drewN _⟩
          rw [HB.out]; simp [m0, m1]
      · have m1' : decide ((x.to : Int) < (D.kp x.into : Int)) = false := by simp; omega
        go_wp2_with fail
        all_goals
          go_quiet (fail)
          go_wp2
          go_ret
          refine ⟨?_, HD3.out.drewN _, HC3.out.drewN _⟩
          rw [HB.out]; simp [m0, m1]
    · have m0' : decide ((0 : Int) < (x.many : Int)) = false := by simp; omega
      go_wp2_with fail
      all_goals
        go_quiet (fail)
        go_wp2
        go_ret
        refine ⟨?_, HD3.out.drewN _, HC3.out.drewN _⟩
        rw [HB.out]; simp [m0]
end Go.Proofs.YtcpldcojckhapaaGreat

set_option maxRecDepth 100000
namespace Go.Proofs.YtcpldcojckhapaaGreat
open Go.RowKit

set_option maxRecDepth 100000 in
set_option maxHeartbeats 1000000 in
theorem bits_none (a : Option Addr) (c : Nat) (w : World) : Calls Tryz.prog 86 #[.slice a 0 c] w fun e w' => e = .returned (.string ⟨#[]⟩) ∧ Below w.heap.size w w' := by
  have hmk : ∀ W : World, (Instr.makeSlice 114 (.int .i64 0) (.int .i64 0)).run Tryz.prog W = .ok (.slice (some ⟨W.heap.size, 0, none⟩) 0 0) (W.alloc (.cells #[] 5)) := fun W => by
    have h := made_bytesQ 0 (by omega) W
    have e : madeCells #[Value.int .u8 0] 0 = #[] := by simp [madeCells]
    rw [e] at h
    exact h
  have hcv : ∀ (W : World) (g : Nat), (convert 114 9 (.slice (some ⟨g, 0, none⟩) 0 0)).run Tryz.prog W = .ok (.string ⟨#[]⟩) W := fun W g => conv_row W g 0 0 [] rfl (fun j x hj => by simp at hj)
  go_enter Tryz.func86, Tryz.ntmps86
  go_wp2_with fail
  refine (bitsSize_at 0 0 rfl _ (by omega)).mono ?_
  rintro e w1 ⟨rfl, rfl⟩
  go_wp2_with fail
  go_loopw [12] (fun i wr => i = .int .i64 0 ∧ wr = w1.alloc (.cells #[] 5)) (fun _ _ => 0)
  case atStart => exact ⟨rfl, rfl⟩
  case round =>
    obtain ⟨rfl, rfl⟩ := hrel
    go_wp2
    go_ret
    exact ⟨rfl, bel_alloc (Below.refl _ _) _⟩

set_option maxRecDepth 100000 in
set_option maxHeartbeats 1000000 in
theorem kept_any (l : List Nat) (d E0 E2 s0 s2 k2 : Nat) (w : World) (hl : l.length = k2) (hk : k2 ≤ s2) (hs : s2 ≤ 10000) (h16 : ∀ x ∈ l, x < 65536) (hE : E2 < w.heap.size) (hc : ∀ j x, l[j]? = some x → w.cell? ⟨E2, j, none⟩ = some (.int .i64 (x : Nat)))
    (c3 : w.cell? ⟨d, 3, none⟩ = some (.slice (some ⟨E0, 0, none⟩) s0 s0)) (c5 : w.cell? ⟨d, 5, none⟩ = some (.slice (some ⟨E2, 0, none⟩) s2 s2)) (c7 : w.cell? ⟨d, 7, none⟩ = some (.int .i64 0)) (c9 : w.cell? ⟨d, 9, none⟩ = some (.int .i64 (k2 : Nat))) :
    Calls Tryz.prog 59 #[.pointer (some ⟨d, 3, none⟩)] w fun e w' => e = .returned (.string (wordsB l)) ∧ Below w.heap.size w w' := by
  have HC := hideF hc
  have H16 := hideF h16
  have HL := hideF hl
  have hk1 : (k2 : Int) ≤ (s2 : Int) := by omega
  have hwb : (wordsB l).size ≤ 20000 := by
    have e : (wordsB l).size = (wordsI l).length := by simp [wordsB, bytesOf, ByteArray.size]
    rw [e, wordsI_len]; omega
  have hlim : ¬ 9223372036854775807 < (wordsB l).size := by omega
  clear hc h16 hl
  go_enter Tryz.func59, Tryz.ntmps59
  go_wp2_with fail
  go_quiet (fail)
  go_wp2_with fail
  go_quiet (fail)
  go_wp2_with fail
  refine (bits_none _ _ _).mono ?_
  rintro e w1 ⟨rfl, hb1⟩
  have HB1 := hideF (bel_then (below_drewN (Below.refl w.heap.size w) _) hb1)
  have hs1 := HB1.out.size
  have HC1 : Hid (∀ j x, l[j]? = some x → w1.cell? ⟨E2, 0 + j, none⟩ = some (.int .i64 (x : Nat))) := fun j x hj => by rw [Nat.zero_add, (bcell HB1.out).1 E2 j hE]; exact HC.out j x hj
  clear hb1
  go_wp2_with fail
  refine (words_any l k2 s2 E2 0 _ _ HL.out (by omega) H16.out (by omega) (fun _ => rfl) HC1.out).mono ?_
  rintro e w2 ⟨rfl, hb2⟩
  have HB2 := hideF (bel_then HB1.out hb2)
  clear hb2
  go_wp2
  go_ret
  have e : (⟨#[]⟩ : ByteArray) ++ wordsB l = wordsB l := by apply ByteArray.ext; simp
  exact ⟨by first | rfl | rw [e], HB2.out⟩
end Go.Proofs.YtcpldcojckhapaaGreat
