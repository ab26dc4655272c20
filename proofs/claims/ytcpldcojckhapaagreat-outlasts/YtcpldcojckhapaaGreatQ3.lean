/-
  tables.read of words: what it answers.
-/
import Derived.Test.YtcpldcojckhapaaGreatQ1
import Derived.Test.YtcpldcojckhapaaGreatP5
set_option maxRecDepth 100000
namespace Go.Proofs.YtcpldcojckhapaaGreat
open Go.RowKit

set_option maxRecDepth 100000 in
set_option maxHeartbeats 1000000 in
theorem holdsBits_no (t : Nat) (w : World) (h : 2 ≤ t) : Calls Tryz.prog 100 #[.int .i64 (t : Nat)] w fun e w' => e = .returned (.bool false) ∧ w' = w := by
  have h0 : ((t : Int) == 0) = false := by rw [beq_eq_false_iff_ne]; omega
  have h1 : ((t : Int) == 1) = false := by rw [beq_eq_false_iff_ne]; omega
  go_enter Tryz.func100, Tryz.ntmps100
  go_wp2
  go_ret
  exact ⟨rfl, rfl⟩
set_option maxRecDepth 100000 in
set_option maxHeartbeats 1000000 in
theorem read_words (d L S : Nat) (E : Nat → Nat) (wv : Value) (D : Dev) (x : Pl.Shp) (n : Nat) (a : Option Addr) (c : Nat) (l : List Nat) (w : World) (h : DevIn w d L S E wv D) (ht : x.tab < 4) (ht2 : 2 ≤ x.tab) (hfit : x.frm + x.cnt ≤ D.sz x.tab) (hsz : D.sz x.tab ≤ 1000) (hl : l.length = x.cnt) (h16 : ∀ y ∈ l, y < 65536) (hv : ∀ j y, l[j]? = some y → D.ent x.tab (x.frm + j) = (y : Nat)) :
    Calls Tryz.prog 145 #[.pointer (some ⟨d, 3, none⟩), shV x (.slice a n c)] w fun e w' => e = .returned (.string (wordsB l)) ∧ Below w.heap.size w w' := by
  unfold shV
  have e1 := h.cellE ht
  have hdl := lt_of_block h.dev
  have hE := (h.ent x.tab ht).lt
  have ht' : (x.tab : Int) < 4 := by omega
  have hcell : ∀ j y, l[j]? = some y → w.cell? ⟨E x.tab, x.frm + j, none⟩ = some (.int .i64 (y : Nat)) := fun j y hj => by
    have hjl : j < l.length := (List.getElem?_eq_some_iff.1 hj).1
    have := (h.ent x.tab ht).cell (i := x.frm + j) (j := 0) (by omega) (by omega)
    rw [Nat.mul_one, Nat.add_zero] at this
    rw [this, hv j y hj]
  have HC := hideF hcell
  have H16 := hideF h16
  have HL := hideF hl
  have b1 : (x.frm : Int) + (x.cnt : Int) ≤ (D.sz x.tab : Int) := by omega
  have b2 : (x.frm : Int) ≤ (x.frm : Int) + (x.cnt : Int) := by omega
  have b3 : x.frm + x.cnt ≤ 1000 := by omega
  clear h hcell h16 hl hv
  go_enter Tryz.func145, Tryz.ntmps145
  go_wp2_with fail
  go_quiet (fail)
  go_wp2_with fail
  all_goals
    refine (holdsBits_no x.tab _ ht2).mono ?_
    rintro e w1 ⟨rfl, rfl⟩
    go_wp2_with fail
  all_goals
    have hXb : Below w.heap.size w ((w.alloc (.cells #[.int .i64 (x.fn : Nat), .int .i64 (x.tab : Nat), .int .i64 (x.frm : Nat), .int .i64 (x.cnt : Nat), .int .i64 (x.into : Nat), .int .i64 (x.to : Nat), .int .i64 (x.many : Nat), .slice a n c] 144)).drewN nq) := below_drewN (bel_alloc (Below.refl _ _) _) _
    have HXb := hideF hXb
    refine (words_any l x.cnt _ (E x.tab) x.frm _ _ HL.out (by omega) H16.out (by simp; omega) (fun hp => by first | rfl | (exfalso; omega)) (fun j y hj => by rw [(bcell HXb.out).1 (E x.tab) _ hE]; exact HC.out j y hj)).mono ?_
    rintro e w2 ⟨rfl, hb2⟩
    have HB2 := hideF (bel_then HXb.out hb2)
    clear hXb hb2
    go_wp2
    go_ret
    exact ⟨rfl, HB2.out⟩
end Go.Proofs.YtcpldcojckhapaaGreat
