/-
  tables.read of words: what it answers.
  request.answer and request.do: what they answer, and what is written.
-/
import Derived.Test.YtcpldcojckhapaaGreatQ1
import Derived.Test.YtcpldcojckhapaaGreatJ29
set_option maxRecDepth 100000
namespace Go.Proofs.YtcpldcojckhapaaGreat
open Go.RowKit

set_option maxRecDepth 100000 in
set_option maxHeartbeats 1000000 in
theorem holdsBits_no (t : Nat) (w : World) (h : 2 ≤ t) : Calls Tryz.prog 100 #[.int .i64 (t : Nat)] w fun e w' => e = .returned (.bool false) ∧ w' = w := by
  have h0 : ((t : Int) == 0) = false := by rw [beq_eq_false_iff_ne]; omega
  have h1 : ((t : Int) == 1) = false := by rw [beq_eq_false_iff_ne]; omega
  go_enter Tryz.func100, Tryz.ntmps100
  go_wp2
  go_ret
  exact ⟨rfl, rfl⟩
set_option maxRecDepth 100000 in
set_option maxHeartbeats 1000000 in
theorem read_words (d L S : Nat) (E : Nat → Nat) (wv : Value) (D : Dev) (x : Pl.Shp) (n : Nat) (a : Option Addr) (c : Nat) (l : List Nat) (w : World) (h : DevIn w d L S E wv D) (ht : x.tab < 4) (ht2 : 2 ≤ x.tab) (hfit : x.frm + x.cnt ≤ D.sz x.tab) (hsz : D.sz x.tab ≤ 1000) (hl : l.length = x.cnt) (h16 : ∀ y ∈ l, y < 65536) (hv : ∀ j y, l[j]? = some y → D.ent x.tab (x.frm + j) = (y : Nat)) :
    Calls Tryz.prog 145 #[.pointer (some ⟨d, 3, none⟩), shV x (.slice a n c)] w fun e w' => e = .returned (.string (wordsB l)) ∧ Below w.heap.size w w' := by
  unfold shV
  have e1 := h.cellE ht
  have hdl := lt_of_block h.dev
  have hE := (h.ent x.tab ht).lt
  have ht' : (x.tab : Int) < 4 := by omega
  have hcell : ∀ j y, l[j]? = some y → w.cell? ⟨E x.tab, x.frm + j, none⟩ = some (.int .i64 (y : Nat)) := fun j y hj => by
    have hjl : j < l.length := (List.getElem?_eq_some_iff.1 hj).1
    have := (h.ent x.tab ht).cell (i := x.frm + j) (j := 0) (by omega) (by omega)
    rw [Nat.mul_one, Nat.add_zero] at this
    rw [this, hv j y hj]
  have HC := hideF hcell
  have H16 := hideF h16
  have HL := hideF hl
  have b1 : (x.frm : Int) + (x.cnt : Int) ≤ (D.sz x.tab : Int) := by omega
  have b2 : (x.frm : Int) ≤ (x.frm : Int) + (x.cnt : Int) := by omega
  have b3 : x.frm + x.cnt ≤ 1000 := by omega
  clear h hcell h16 hl hv
  go_enter Tryz.func145, Tryz.ntmps145
  go_wp2_with fail
  go_quiet (fail)
  go_wp2_with fail
  all_goals
    refine (holdsBits_no x.tab _ ht2).mono ?_
    rintro e w1 ⟨rfl, rfl⟩
    go_wp2_with fail
  all_goals
    have hXb : Below w.heap.size w ((w.alloc (.cells #[.int .i64 (x.fn : Nat), .int .i64 (x.tab : Nat), .int .i64 (x.frm : Nat), .int .i64 (x.cnt : Nat), .int .i64 (x.into : Nat), .int .i64 (x.to : Nat), .int .i64 (x.many : Nat), .slice a n c] 144)).drewN nq) := below_drewN (bel_alloc (Below.refl _ _) _) _
    have HXb := hideF hXb
    refine (words_any l x.cnt _ (E x.tab) x.frm _ _ HL.out (by omega) H16.out (by simp; omega) (fun hp => by first | rfl | (exfalso; omega)) (fun j y hj => by rw [(bcell HXb.out).1 (E x.tab) _ hE]; exact HC.out j y hj)).mono ?_
    rintro e w2 ⟨rfl, hb2⟩
    have HB2 := hideF (bel_then HXb.out hb2)
    clear hXb hb2
    go_wp2
    go_ret
    exact ⟨rfl, HB2.out⟩
end Go.Proofs.YtcpldcojckhapaaGreat

set_option maxRecDepth 100000
namespace Go.Proofs.YtcpldcojckhapaaGreat
open Go.RowKit

theorem cells10 {W : World} {g : Nat} {t : TypeId} {a0 a1 a2 a3 a4 a5 a6 a7 a8 a9 : Value} (h : W.heap[g]? = some (.cells #[a0, a1, a2, a3, a4, a5, a6, a7, a8, a9] t (0, 0))) : W.cell? ⟨g, 0, none⟩ = some a0 ∧ W.cell? ⟨g, 1, none⟩ = some a1 ∧ W.cell? ⟨g, 2, none⟩ = some a2 ∧ W.cell? ⟨g, 3, none⟩ = some a3 ∧ W.cell? ⟨g, 4, none⟩ = some a4 ∧ W.cell? ⟨g, 5, none⟩ = some a5 ∧ W.cell? ⟨g, 6, none⟩ = some a6 ∧ W.cell? ⟨g, 7, none⟩ = some a7 ∧ W.cell? ⟨g, 8, none⟩ = some a8 ∧ W.cell? ⟨g, 9, none⟩ = some a9 :=
  ⟨by rw [cell_of_row _ _ _ _ _ _ h]; rfl, by rw [cell_of_row _ _ _ _ _ _ h]; rfl, by rw [cell_of_row _ _ _ _ _ _ h]; rfl, by rw [cell_of_row _ _ _ _ _ _ h]; rfl, by rw [cell_of_row _ _ _ _ _ _ h]; rfl, by rw [cell_of_row _ _ _ _ _ _ h]; rfl, by rw [cell_of_row _ _ _ _ _ _ h]; rfl, by rw [cell_of_row _ _ _ _ _ _ h]; rfl, by rw [cell_of_row _ _ _ _ _ _ h]; rfl, by rw [cell_of_row _ _ _ _ _ _ h]; rfl⟩
set_option maxRecDepth 100000 in
set_option maxHeartbeats 1000000 in
theorem answer_set (d : Nat) (s : ByteArray) (x : Pl.Shp) (a : Option Addr) (n c k : Nat) (w : World) (hf : x.fn = 6) :
    Calls Tryz.prog 116 #[reqV s x (.slice a n c) k, .pointer (some ⟨d, 3, none⟩)] w fun e w' => e = .returned (.string s) ∧ Below w.heap.size w w' := by
  unfold reqV
  rw [hf]
  clear hf
  go_enter Tryz.func116, Tryz.ntmps116
  go_wp2
  go_ret
  exact ⟨rfl, bel_alloc (Below.refl _ _) _⟩
/-- An answer that tells words. -/
def tellB (f : Nat) (l : List Nat) : ByteArray := ⟨#[UInt8.ofNat f, UInt8.ofNat (2 * l.length)]⟩ ++ wordsB l
theorem wordsB_size (l : List Nat) : (wordsB l).size = 2 * l.length := by
  have e : (wordsB l).size = (wordsI l).length := by simp [wordsB, bytesOf, ByteArray.size]
  rw [e, wordsI_len]
set_option maxRecDepth 100000 in
set_option maxHeartbeats 1000000 in
theorem answer_words (d L S : Nat) (E : Nat → Nat) (wv : Value) (D : Dev) (s : ByteArray) (x : Pl.Shp) (a : Option Addr) (n c k f : Nat) (l : List Nat) (w : World) (h : DevIn w d L S E wv D) (hf : x.fn ≠ 5 ∧ x.fn ≠ 6 ∧ x.fn ≠ 22 ∧ x.fn ≠ 15 ∧ x.fn ≠ 16) (ht : x.tab < 4) (ht2 : 2 ≤ x.tab) (hfit : x.frm + x.cnt ≤ D.sz x.tab) (hsz : D.sz x.tab ≤ 100) (hl : l.length = x.cnt) (h16 : ∀ y ∈ l, y < 65536) (hv : ∀ j y, l[j]? = some y → D.ent x.tab (x.frm + j) = (y : Nat)) (hs : 0 < s.size) (hs0 : Pl.byt s 0 = f) :
    Calls Tryz.prog 116 #[reqV s x (.slice a n c) k, .pointer (some ⟨d, 3, none⟩)] w fun e w' => e = .returned (.string (tellB f l)) ∧ Below w.heap.size w w' := by
  obtain ⟨W, hW⟩ : ∃ W, W = w.alloc (.cells #[.string s, .int .i64 (x.fn : Nat), .int .i64 (x.tab : Nat), .int .i64 (x.frm : Nat), .int .i64 (x.cnt : Nat), .int .i64 (x.into : Nat), .int .i64 (x.to : Nat), .int .i64 (x.many : Nat), .slice a n c, .int .u8 (k : Nat)] 146) := ⟨_, rfl⟩
  have hWb : Below w.heap.size w W := by rw [hW]; exact bel_alloc (Below.refl _ _) _
  have hWg : W.heap[w.heap.size]? = some (.cells #[.string s, .int .i64 (x.fn : Nat), .int .i64 (x.tab : Nat), .int .i64 (x.frm : Nat), .int .i64 (x.cnt : Nat), .int .i64 (x.into : Nat), .int .i64 (x.to : Nat), .int .i64 (x.many : Nat), .slice a n c, .int .u8 (k : Nat)] 146 (0, 0)) := by rw [hW]; exact heap_alloc_new w _
  have HR := hideF (read_words d L S E wv D x n a c l W (h.belowQ hWb) ht ht2 hfit (by omega) hl h16 hv)
  have hzl := wordsB_size l
  have hz2 : (wordsB l).size ≤ 200 := by omega
  have HZ : Hid ((wordsB l).size = 2 * l.length) := hzl
  have HWb := hideF hWb
  have HWg := hideF hWg
  have gb := Pl.get_byt s
  have hs0' := Pl.byt_lt s 0
  have hsI : (0 : Int) < (s.size : Int) := by omega
  have hlim : ¬ 9223372036854775807 < 2 + (wordsB l).size := by omega
  have hWl : W.heap.size = w.heap.size + 1 := by rw [hW]; simp
  have c2 : ∀ (V : World) (g : Nat) (p q : Int), V.cell? ⟨g, 0, none⟩ = some (.int .u8 p) → V.cell? ⟨g, 1, none⟩ = some (.int .u8 q) → (convert 114 9 (.slice (some ⟨g, 0, none⟩) 2 2)).run Tryz.prog V = .ok (.string ⟨#[UInt8.ofNat p.toNat, UInt8.ofNat q.toNat]⟩) V := fun V g p q h0 h1 => by
    have := conv_row V g 2 2 [p, q] rfl (fun j y hj => by
      match j, hj with
      | 0, hj => simp at hj; subst hj; exact h0
      | 1, hj => simp at hj; subst hj; exact h1)
    exact this
  obtain ⟨r0, r1, r2, r3, r4, r5, r6, r7, r8, r9⟩ := cells10 hWg
  unfold reqV
  clear h hl h16 hv hWb hWg hzl
  have t5 : ((x.fn : Int) == 5) = false := by rw [beq_eq_false_iff_ne]; omega
  have t6 : ((x.fn : Int) == 6) = false := by rw [beq_eq_false_iff_ne]; omega
  have t22 : ((x.fn : Int) == 22) = false := by rw [beq_eq_false_iff_ne]; omega
  have t15 : ((x.fn : Int) == 15) = false := by rw [beq_eq_false_iff_ne]; omega
  have t16 : ((x.fn : Int) == 16) = false := by rw [beq_eq_false_iff_ne]; omega
  clear hf
  go_enter Tryz.func116, Tryz.ntmps116
  go_wp2_with fail
  rw [← hW]
  clear hW
  refine HR.out.mono ?_
  rintro e w1 ⟨rfl, hb1⟩
  have hs1 := hb1.size
  have hg1 := (hb1.block w.heap.size (by omega)).trans HWg.out
  have HB1 := hideF (bel_then HWb.out hb1)
  clear r0 r1 r2 r3 r4 r5 r6 r7 r8 r9 hb1
  obtain ⟨r0, r1, r2, r3, r4, r5, r6, r7, r8, r9⟩ := cells10 hg1
  clear hg1
  have ew : IntKind.u8.wrap ((wordsB l).size : Int) = ((wordsB l).size : Int) := by rw [IntKind.wrap_u8]; omega
  have hlt : w.heap.size < w1.heap.size := by omega
  go_wp2_with fail
  go_ret
  refine ⟨?_, bel_alloc HB1.out _⟩
  unfold tellB
  rw [← HZ.out]
  rfl

theorem DevIn.ents {w : World} {d L S : Nat} {E : Nat → Nat} {wv : Value} {D : Dev} {f : Nat → Nat → Int} (h : DevIn w d L S E wv D) (hf : f = D.ent) : DevIn w d L S E wv { D with ent := f } := by
  subst hf; exact h
set_option maxRecDepth 100000 in
set_option maxHeartbeats 1000000 in
theorem do_ok (d L S B : Nat) (E : Nat → Nat) (wv : Value) (D : Dev) (s : ByteArray) (x : Pl.Shp) (v : Value) (b : Bool) (r : ByteArray) (w : World) (h : DevIn w d L S E wv D) (ht : x.tab < 4) (hi : x.into < 4) (hf : x.fn ≠ 22) (hv : w.ownsRow B 3 1 v x.vals.length (x.vals.flatMap encI)) (hhas : hasB D x = true) (hlen : x.vals.length = x.many) (h1 : x.frm ≤ 100000) (h2 : x.cnt ≤ 100000) (h3 : x.to ≤ 100000) (h4 : x.many ≤ 100000)
    (hb : b = (decide (0 < x.many) && decide (x.to < D.kp x.into)))
    (hA : ∀ (a : Option Addr) (n c : Nat) (w1 : World), v = .slice a n c → DevIn w1 d L S E wv { D with ent := entW D x } → Calls Tryz.prog 116 #[reqV s x (.slice a n c) 0, .pointer (some ⟨d, 3, none⟩)] w1 fun e w' => e = .returned (.string r) ∧ Below w1.heap.size w1 w') :
    Calls Tryz.prog 80 #[reqV s x v 0, .pointer (some ⟨d, 3, none⟩)] w fun e w' => e = .returned (.tuple #[.string r, .bool b]) ∧ DevIn w' d L S E wv { D with ent := entW D x } ∧ Chg1 (E x.into) w w' := by
  obtain ⟨a, c, rfl, _⟩ := own_view hv
  obtain ⟨W, hW⟩ : ∃ W, W = w.alloc (.cells #[.string s, .int .i64 (x.fn : Nat), .int .i64 (x.tab : Nat), .int .i64 (x.frm : Nat), .int .i64 (x.cnt : Nat), .int .i64 (x.into : Nat), .int .i64 (x.to : Nat), .int .i64 (x.many : Nat), .slice a x.vals.length c, .int .u8 0] 146) := ⟨_, rfl⟩
  have hWb : Below w.heap.size w W := by rw [hW]; exact bel_alloc (Below.refl _ _) _
  have hWg : W.heap[w.heap.size]? = some (.cells #[.string s, .int .i64 (x.fn : Nat), .int .i64 (x.tab : Nat), .int .i64 (x.frm : Nat), .int .i64 (x.cnt : Nat), .int .i64 (x.into : Nat), .int .i64 (x.to : Nat), .int .i64 (x.many : Nat), .slice a x.vals.length c, .int .u8 0] 146 (0, 0)) := by rw [hW]; exact heap_alloc_new w _
  have hWl : W.heap.size = w.heap.size + 1 := by rw [hW]; simp
  have hEl := (h.ent x.into hi).lt
  have hfit : x.to + x.vals.length ≤ D.sz x.into := by
    unfold hasB at hhas
    simp only [Bool.and_eq_true, decide_eq_true_eq] at hhas
    omega
  obtain ⟨r0, r1, r2, r3, r4, r5, r6, r7, r8, r9⟩ := cells10 hWg
  have HHAS := hideF (has_any d L S E wv D x (.slice a x.vals.length c) x.vals.length a c W (h.belowQ hWb) ht hi h1 h2 h3 h4 rfl)
  have HH := hideF h
  have HV := hideF hv
  have HWb := hideF hWb
  have HWg := hideF hWg
  have HB := hideF hb
  have HA := hideF hA
  have HF := hideF hf
  have HT := hideF hhas
  unfold reqV
  clear h hv hWb hWg hb hA hf hlen hhas
  go_enter Tryz.func80, Tryz.ntmps80
  go_wp2_with fail
  rw [← hW]
  clear hW
  refine HHAS.out.mono ?_
  rintro e w1 ⟨rfl, hb1⟩
  rw [HT.out]
  have hs1 := hb1.size
  have hg1 := (hb1.block w.heap.size (by omega)).trans HWg.out
  have HB1 := hideF (bel_then HWb.out hb1)
  clear r0 r1 r2 r3 r4 r5 r6 r7 r8 r9 hb1
  obtain ⟨r0, r1, r2, r3, r4, r5, r6, r7, r8, r9⟩ := cells10 hg1
  have HG1 := hideF hg1
  clear hg1
  go_wp2_with fail
  refine (write_copy d L S B E wv D x (.slice a x.vals.length c) b w1 (HH.out.belowQ HB1.out) hi HF.out (ownsRow_below HV.out HB1.out) hfit h4 HB.out).mono ?_
  rintro e w2 ⟨rfl, hd2, hc2⟩
  have hs2 := hc2.size
  have hlt1 := lt_of_block HG1.out
  have hg2 := (hc2.block w.heap.size hlt1 (by omega)).trans HG1.out
  have HD2 := hideF hd2
  have HC2 := hideF ((Chg1.of_below (E x.into) HB1.out).trans hc2)
  clear r0 r1 r2 r3 r4 r5 r6 r7 r8 r9 hd2 hc2
  obtain ⟨r0, r1, r2, r3, r4, r5, r6, r7, r8, r9⟩ := cells10 hg2
  clear hg2
  go_wp2_with fail
  refine (HA.out a x.vals.length c w2 rfl HD2.out).mono ?_
  rintro e w3 ⟨rfl, hb3⟩
  have HD3 := hideF (HD2.out.belowQ hb3)
  have HC3 := hideF (HC2.out.then_below hb3)
  clear hb3
  go_wp2
  go_ret2
  exact ⟨rfl, HD3.out, HC3.out⟩
end Go.Proofs.YtcpldcojckhapaaGreat
