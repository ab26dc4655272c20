/-
  The walk of the law Shapes.
-/
import Derived.Test.YtcpldcojckhapaaBE
import Derived.Test.YtcpldcojckhapaaBGI
import Derived.Test.YtcpldcojckhapaaSm
import Derived.Test.YtcpldcojckhapaaR6
namespace Go.Proofs.Ytcpldcojckhapaa
open Go.RowKit

/-- The book as it stands between two rounds. -/
def BookSt (w : World) (B kb N : Nat) (vI vC vW : Value) (xs : List Int) : Prop :=
  w.heap[kb]? = some (.cells #[vI, .slice none 0 0, .slice none 0 0, .slice none 0 0, .bool false, vC, vW, .slice none 0 0, .slice none 0 0, .slice none 0 0, .slice none 0 0, .slice none 0 0, .slice none 0 0] 35 (0, 0)) ∧
  ListsIn w B 30 3 1 mkI vI N (fun g => vC.ownBlock ≠ some g) ∧ w.ownsRow B 3 1 vC xs.length (xs.flatMap encI) ∧ w.ownsRow B 3 1 vW xs.length (xs.flatMap encI) ∧ xs.length ≤ 2000
theorem BookSt.below {w w' : World} {B kb N : Nat} {vI vC vW : Value} {xs : List Int} (h : BookSt w B kb N vI vC vW xs) (hb : Below w.heap.size w w') : BookSt w' B kb N vI vC vW xs :=
  ⟨(hb.block kb (lt_of_block h.1)).trans h.1, h.2.1.below hb, ownsRow_below h.2.2.1 hb, ownsRow_below h.2.2.2.1 hb, h.2.2.2.2⟩

/-- One list more. -/
theorem int_step (w : World) (B kb N S : Nat) (vI vC vW vL : Value) (xs0 xs : List Int) (h : BookSt w B kb N vI vC vW xs0) (hS : ∀ g, vC.ownBlock = some g → g < S) (hSL : ListsIn w B 30 3 1 mkI vI N (fun g => g < S)) (hV : w.ownsRow S 3 1 vL xs.length (xs.flatMap encI)) (hBS : B ≤ S) (hxs : xs.length ≤ 2000) (hN : N % 4 = 0) (hN2 : N ≤ 900) (hB : B ≤ w.heap.size) (hkB : B ≤ kb) :
    Calls Try.prog 21 #[.pointer (some ⟨kb, 0, none⟩), vL] w fun e w' => e = .returned (.tuple #[]) ∧ ∃ vI' vW', BookSt w' B kb (N + 4) vI' vL vW' xs ∧ Below B w w' := by
  obtain ⟨h1, h2, h3, h4, h5⟩ := h
  have hLb : ∀ g, vL.ownBlock = some g → S ≤ g ∧ g < w.heap.size := hV.lt
  refine (intTake_any w B kb _ _ _ _ _ _ _ _ _ vI vC vW vL N (fun g => g < S ∧ vC.ownBlock ≠ some g) xs0 xs h1 ?_ (fun g hg => hg.2) h3 h4 hN (by omega) (by omega) (by omega) hB (own_base hV hBS) (fun g hg ee => by have := hS g ee; have := (hLb g hg).1; omega)).mono ?_
  · obtain ⟨Ls, a1, a2⟩ := h2
    obtain ⟨Ls', b1, b2⟩ := hSL
    obtain rfl := own_unique b1 a1
    exact ⟨_, a1, fun i u hu => by
      obtain ⟨k, r1, r2, r3⟩ := a2 i u hu
      obtain ⟨_, _, _, r4⟩ := b2 i u hu
      exact ⟨k, r1, r2, fun g hg => ⟨r4 g hg, r3 g hg⟩⟩⟩
  · rintro e w' ⟨rfl, vI', vW', p1, p2, p3, p4, p5⟩
    refine ⟨rfl, vI', vW', ⟨p1, p2.weaken (fun g _ hq ee => ?_), p3, p4, hxs⟩, p5.below hkB (lists_base h2) (fun g hg => (h3.lt g hg).1) hB⟩
    have hx := hLb g ee
    rcases hq with r | r | r
    · omega
    · have := hS g r; omega
    · omega
theorem still_step (w : World) (B kb N : Nat) (vI vC vW : Value) (xs : List Int) (h : BookSt w B kb N vI vC vW xs) (hN2 : N ≤ 900) :
    Calls Try.prog 14 #[.pointer (some ⟨kb, 0, none⟩)] w fun e w' => e = .returned (.bool true) ∧ Below w.heap.size w w' := by
  obtain ⟨h1, h2, h3, h4, h5⟩ := h
  exact still_any w B kb vI _ _ _ vC vW _ _ _ _ _ _ N 0 0 0 xs [] [] [] h1 h2.lists (lists_nil w B 31 40 3 mkF (fun _ => True)).lists (lists_nil w B 33 75 4 mkA (fun _ => True)).lists (lists_nil w B 32 9 1 mkT (fun _ => True)).lists h3 h4 (World.ownsRow_nil _ _ _ _) (World.ownsRow_nil _ _ _ _) (World.ownsRow_nil _ _ _ _) (World.ownsRow_nil _ _ _ _) (World.ownsRow_nil _ _ _ _) (World.ownsRow_nil _ _ _ _) (by omega) (by omega) (by omega) (by simp) (by omega) (by simp) (by omega) (by simp)
theorem ends_step (w : World) (B kb N : Nat) (vI vC vW : Value) (xs : List Int) (h : BookSt w B kb N vI vC vW xs) (hN : N % 4 = 0) (hN2 : N ≤ 900) (hB : B ≤ w.heap.size) (hkB : B ≤ kb) :
    Calls Try.prog 17 #[.pointer (some ⟨kb, 0, none⟩)] w fun e w' => e = .returned (.bool true) ∧ Below B w w' := by
  obtain ⟨h1, h2, h3, h4, h5⟩ := h
  exact ends_any w B kb vI _ _ _ vC vW _ _ _ _ _ _ N 0 0 0 _ (fun _ => False) (fun _ => False) (fun _ => False) xs [] [] [] h1 h2 (fun g hg => hg) (lists_nil _ _ _ _ _ _ _) (fun _ h => h.elim) (lists_nil _ _ _ _ _ _ _) (fun _ h => h.elim) (lists_nil _ _ _ _ _ _ _) (fun _ h => h.elim) h3 h4 (World.ownsRow_nil _ _ _ _) (World.ownsRow_nil _ _ _ _) (World.ownsRow_nil _ _ _ _) (World.ownsRow_nil _ _ _ _) (World.ownsRow_nil _ _ _ _) (World.ownsRow_nil _ _ _ _) ⟨hN, by omega⟩ (by omega) ⟨by omega, by omega⟩ (by simp) ⟨by omega, by omega⟩ (by simp) ⟨by omega, by omega⟩ (by simp) hB hkB

set_option maxRecDepth 100000 in
set_option maxHeartbeats 8000000 in
theorem shapes_walk (s t : ByteArray) (w : World) :
    Calls Try.prog 5 #[.string s, .string t] w fun e w' => e = .returned (.bool true) ∧ Below w.heap.size w w' := by
  go_enter Try.func5, Try.ntmps5
  go_wp2_with fail
  go_loopw [6] (fun i wr => ∃ (q : Nat) (vI vC vW : Value) (xs : List Int), q ≤ 4 ∧ i = .int .i64 (q : Nat) ∧ BookSt wr w.heap.size w.heap.size (4 * q) vI vC vW xs ∧ Below w.heap.size w wr) (fun i _ => 4 - (intOf i).toNat)
  case atStart => exact ⟨0, .slice none 0 0, .slice none 0 0, .slice none 0 0, [], by omega, rfl, ⟨heap_alloc_new w _, lists_nil _ _ _ _ _ _ _, World.ownsRow_nil _ _ _ _, World.ownsRow_nil _ _ _ _, by decide⟩, (Below.refl _ _).alloc (Nat.le_refl _) _⟩
  case round =>
    obtain ⟨q, vI, vC, vW, xs, hq4, rfl, hbk, hbw⟩ := hrel
    by_cases hq : q < 4
    · have HS : Hid (∀ g, vC.ownBlock = some g → g < wr.heap.size) := fun g hg => (hbk.2.2.1.lt g hg).2
      have HSL : Hid (ListsIn wr w.heap.size 30 3 1 mkI vI (4 * q) (fun g => g < wr.heap.size)) := hbk.2.1.weaken (fun g hg _ => hg)
      have hBS : w.heap.size ≤ wr.heap.size := hbw.size
      have HBK := hideF hbk
      have HBW := hideF hbw
      clear hbk hbw
      by_cases hq2 : q = 2
      · have t2 : ((q : Int) == 2) = true := by rw [beq_iff_eq]; omega
        clear hq2
        go_wp2_with fail
        refine (shape_any t _).mono ?_
        rintro e w1 ⟨x, v1, k, rfl, hown1, hsh1, hl1, hb1⟩
        obtain ⟨xf, xt, xa, xc, xi, xo, xm, xv⟩ := x
        obtain ⟨a1, k1, rfl, _⟩ := own_view hown1
        have HSH := hideF hsh1
        have HL := hideF hl1
        clear hsh1 hl1
        simp only [shV]
        go_wp2_with fail
        obtain ⟨X1, hX1⟩ : ∃ X1, X1 = w1.alloc (.cells #[.int .i64 (xf : Nat), .int .i64 (xt : Nat), .int .i64 (xa : Nat), .int .i64 (xc : Nat), .int .i64 (xi : Nat), .int .i64 (xo : Nat), .int .i64 (xm : Nat), .slice a1 xv.length k1] 48) := ⟨_, rfl⟩
        rw [← hX1]
        obtain ⟨g1, hg1⟩ : ∃ g1, g1 = w1.heap.size := ⟨_, rfl⟩
        have hX1b : Below w1.heap.size w1 X1 := by rw [hX1]; exact bel_alloc (Below.refl _ _) _
        have hX1g : X1.heap[g1]? = some (.cells #[.int .i64 (xf : Nat), .int .i64 (xt : Nat), .int .i64 (xa : Nat), .int .i64 (xc : Nat), .int .i64 (xi : Nat), .int .i64 (xo : Nat), .int .i64 (xm : Nat), .slice a1 xv.length k1] 48 (0, 0)) := by rw [hX1, hg1]; exact heap_alloc_new w1 _
        have hX1s : g1 < X1.heap.size := by rw [hX1, hg1]; simp
        have hbX1 := bel_then hb1 hX1b
        have how1 := ownsRow_below hown1 hX1b
        rw [← hg1]
        clear hX1 hg1 hX1b hb1 hown1
        refine (rshape_any t X1).mono ?_
        rintro e w2 ⟨y, v2, l, rfl, hown2, hsh2, _, hb2⟩
        obtain ⟨hxy, hkl⟩ := HSH.out.eq hsh2
        subst hxy hkl
        obtain ⟨a2, k2, rfl, _⟩ := own_view hown2
        clear hsh2 HSH
        have hX1w := (hb2.block g1 hX1s).trans hX1g
        have z1 : g1 < w2.heap.size := Nat.lt_of_lt_of_le hX1s hb2.size
        obtain ⟨fy, d0, d1, d2, d3, d4, d5, d6, d7⟩ := cells8 hX1w
        have HB1 := hideF (bel_then hbX1 hb2)
        have HOO1 := hideF (ownsRow_below how1 hb2)
        have HOO2 := hideF hown2
        have HXW := hideF hX1w
        clear hb2 hown2 hbX1 how1 hX1g hX1s hX1w
        simp only [shV]
        go_wp2_with fail
        obtain ⟨X2, hX2⟩ : ∃ X2, X2 = w2.alloc (.cells #[.int .i64 (xf : Nat), .int .i64 (xt : Nat), .int .i64 (xa : Nat), .int .i64 (xc : Nat), .int .i64 (xi : Nat), .int .i64 (xo : Nat), .int .i64 (xm : Nat), .slice a2 xv.length k2] 48) := ⟨_, rfl⟩
        rw [← hX2]
        obtain ⟨g2, hg2⟩ : ∃ g2, g2 = w2.heap.size := ⟨_, rfl⟩
        have hX2b : Below w2.heap.size w2 X2 := by rw [hX2]; exact bel_alloc (Below.refl _ _) _
        have hX2g : X2.heap[g2]? = some (.cells #[.int .i64 (xf : Nat), .int .i64 (xt : Nat), .int .i64 (xa : Nat), .int .i64 (xc : Nat), .int .i64 (xi : Nat), .int .i64 (xo : Nat), .int .i64 (xm : Nat), .slice a2 xv.length k2] 48 (0, 0)) := by rw [hX2, hg2]; exact heap_alloc_new w2 _
        have hX1g2 := (hX2b.block g1 z1).trans HXW.out
        have HB2 := hideF (bel_then HB1.out hX2b)
        have HO1 := hideF (ownsRow_below HOO1.out hX2b)
        have HO2 := hideF (ownsRow_below HOO2.out hX2b)
        rw [← hg2]
        clear hX2 hg2 hX2b z1 d0 d1 d2 d3 d4 d5 d6 d7 fy HB1 HOO1 HOO2 HXW
        obtain ⟨fy, d0, d1, d2, d3, d4, d5, d6, d7⟩ := cells8 hX1g2
        obtain ⟨fx, e0, e1, e2, e3, e4, e5, e6, e7⟩ := cells8 hX2g
        clear hX1g2 hX2g
        refine (same19 X2 _ _ _ _ xv HO1.out HO2.out (by have := HL.out; omega)).mono ?_
        rintro e w3 ⟨rfl, n3, rfl⟩
        go_wp2_with fail
        obtain ⟨W, hW⟩ : ∃ W, W = X2.drewN n3 := ⟨_, rfl⟩
        rw [← hW]
        have hbW : Below wr.heap.size wr W := by rw [hW]; exact below_drewN HB2.out _
        have hoW : W.ownsRow wr.heap.size 3 1 (.slice a1 xv.length k1) xv.length (xv.flatMap encI) := by rw [hW]; exact ownsRow_heap rfl HO1.out
        clear hW d0 d1 d2 d3 d4 d5 d6 d7 e0 e1 e2 e3 e4 e5 e6 e7 fy fx
        have hszW := hbW.size
        refine (int_step W (w.heap.size) (w.heap.size) (4 * q) wr.heap.size vI vC vW (.slice a1 xv.length k1) xs xv (HBK.out.below hbW) HS.out (HSL.out.below hbW) hoW hBS HL.out (by omega) (by omega) (by omega) (Nat.le_refl _)).mono ?_
        rintro e w5 ⟨rfl, vI', vW', hbk5, hb5⟩
        have hbw5 : Below w.heap.size w w5 := (HBW.out.trans (hbW.mono HBW.out.size)).trans hb5
        clear hoW hbW
        go_wp2_with fail
        refine (still_step w5 _ _ _ vI' _ vW' xv hbk5 (by omega)).mono ?_
        rintro e w6 ⟨rfl, hb6⟩
        have hbk6 := hbk5.below hb6
        have hbw6 : Below w.heap.size w w6 := hbw5.trans (hb6.mono hbw5.size)
        have HBK6 := hideF hbk6
        clear hbk5 hbk6 hb6
        go_wp2
        go_roundw
        case rel => exact ⟨q + 1, vI', _, vW', xv, by omega, by go_num, by rw [show 4 * (q + 1) = 4 * q + 4 by omega]; exact HBK6.out, hbw6⟩
        case measure => simp [intOf]; omega
      · have t2 : ((q : Int) == 2) = false := by rw [beq_eq_false_iff_ne]; omega
        clear hq2
        go_wp2_with fail
        refine (shape_any s _).mono ?_
        rintro e w1 ⟨x, v1, k, rfl, hown1, hsh1, hl1, hb1⟩
        obtain ⟨xf, xt, xa, xc, xi, xo, xm, xv⟩ := x
        obtain ⟨a1, k1, rfl, _⟩ := own_view hown1
        have HSH := hideF hsh1
        have HL := hideF hl1
        clear hsh1 hl1
        simp only [shV]
        go_wp2_with fail
        obtain ⟨X1, hX1⟩ : ∃ X1, X1 = w1.alloc (.cells #[.int .i64 (xf : Nat), .int .i64 (xt : Nat), .int .i64 (xa : Nat), .int .i64 (xc : Nat), .int .i64 (xi : Nat), .int .i64 (xo : Nat), .int .i64 (xm : Nat), .slice a1 xv.length k1] 48) := ⟨_, rfl⟩
        rw [← hX1]
        obtain ⟨g1, hg1⟩ : ∃ g1, g1 = w1.heap.size := ⟨_, rfl⟩
        have hX1b : Below w1.heap.size w1 X1 := by rw [hX1]; exact bel_alloc (Below.refl _ _) _
        have hX1g : X1.heap[g1]? = some (.cells #[.int .i64 (xf : Nat), .int .i64 (xt : Nat), .int .i64 (xa : Nat), .int .i64 (xc : Nat), .int .i64 (xi : Nat), .int .i64 (xo : Nat), .int .i64 (xm : Nat), .slice a1 xv.length k1] 48 (0, 0)) := by rw [hX1, hg1]; exact heap_alloc_new w1 _
        have hX1s : g1 < X1.heap.size := by rw [hX1, hg1]; simp
        have hbX1 := bel_then hb1 hX1b
        have how1 := ownsRow_below hown1 hX1b
        rw [← hg1]
        clear hX1 hg1 hX1b hb1 hown1
        refine (rshape_any s X1).mono ?_
        rintro e w2 ⟨y, v2, l, rfl, hown2, hsh2, _, hb2⟩
        obtain ⟨hxy, hkl⟩ := HSH.out.eq hsh2
        subst hxy hkl
        obtain ⟨a2, k2, rfl, _⟩ := own_view hown2
        clear hsh2 HSH
        have hX1w := (hb2.block g1 hX1s).trans hX1g
        have z1 : g1 < w2.heap.size := Nat.lt_of_lt_of_le hX1s hb2.size
        obtain ⟨fy, d0, d1, d2, d3, d4, d5, d6, d7⟩ := cells8 hX1w
        have HB1 := hideF (bel_then hbX1 hb2)
        have HOO1 := hideF (ownsRow_below how1 hb2)
        have HOO2 := hideF hown2
        have HXW := hideF hX1w
        clear hb2 hown2 hbX1 how1 hX1g hX1s hX1w
        simp only [shV]
        go_wp2_with fail
        obtain ⟨X2, hX2⟩ : ∃ X2, X2 = w2.alloc (.cells #[.int .i64 (xf : Nat), .int .i64 (xt : Nat), .int .i64 (xa : Nat), .int .i64 (xc : Nat), .int .i64 (xi : Nat), .int .i64 (xo : Nat), .int .i64 (xm : Nat), .slice a2 xv.length k2] 48) := ⟨_, rfl⟩
        rw [← hX2]
        obtain ⟨g2, hg2⟩ : ∃ g2, g2 = w2.heap.size := ⟨_, rfl⟩
        have hX2b : Below w2.heap.size w2 X2 := by rw [hX2]; exact bel_alloc (Below.refl _ _) _
        have hX2g : X2.heap[g2]? = some (.cells #[.int .i64 (xf : Nat), .int .i64 (xt : Nat), .int .i64 (xa : Nat), .int .i64 (xc : Nat), .int .i64 (xi : Nat), .int .i64 (xo : Nat), .int .i64 (xm : Nat), .slice a2 xv.length k2] 48 (0, 0)) := by rw [hX2, hg2]; exact heap_alloc_new w2 _
        have hX1g2 := (hX2b.block g1 z1).trans HXW.out
        have HB2 := hideF (bel_then HB1.out hX2b)
        have HO1 := hideF (ownsRow_below HOO1.out hX2b)
        have HO2 := hideF (ownsRow_below HOO2.out hX2b)
        rw [← hg2]
        clear hX2 hg2 hX2b z1 d0 d1 d2 d3 d4 d5 d6 d7 fy HB1 HOO1 HOO2 HXW
        obtain ⟨fy, d0, d1, d2, d3, d4, d5, d6, d7⟩ := cells8 hX1g2
        obtain ⟨fx, e0, e1, e2, e3, e4, e5, e6, e7⟩ := cells8 hX2g
        clear hX1g2 hX2g
        refine (same19 X2 _ _ _ _ xv HO1.out HO2.out (by have := HL.out; omega)).mono ?_
        rintro e w3 ⟨rfl, n3, rfl⟩
        go_wp2_with fail
        obtain ⟨W, hW⟩ : ∃ W, W = X2.drewN n3 := ⟨_, rfl⟩
        rw [← hW]
        have hbW : Below wr.heap.size wr W := by rw [hW]; exact below_drewN HB2.out _
        have hoW : W.ownsRow wr.heap.size 3 1 (.slice a1 xv.length k1) xv.length (xv.flatMap encI) := by rw [hW]; exact ownsRow_heap rfl HO1.out
        clear hW d0 d1 d2 d3 d4 d5 d6 d7 e0 e1 e2 e3 e4 e5 e6 e7 fy fx
        have hszW := hbW.size
        refine (int_step W (w.heap.size) (w.heap.size) (4 * q) wr.heap.size vI vC vW (.slice a1 xv.length k1) xs xv (HBK.out.below hbW) HS.out (HSL.out.below hbW) hoW hBS HL.out (by omega) (by omega) (by omega) (Nat.le_refl _)).mono ?_
        rintro e w5 ⟨rfl, vI', vW', hbk5, hb5⟩
        have hbw5 : Below w.heap.size w w5 := (HBW.out.trans (hbW.mono HBW.out.size)).trans hb5
        clear hoW hbW
        go_wp2_with fail
        refine (still_step w5 _ _ _ vI' _ vW' xv hbk5 (by omega)).mono ?_
        rintro e w6 ⟨rfl, hb6⟩
        have hbk6 := hbk5.below hb6
        have hbw6 : Below w.heap.size w w6 := hbw5.trans (hb6.mono hbw5.size)
        have HBK6 := hideF hbk6
        clear hbk5 hbk6 hb6
        go_wp2
        go_roundw
        case rel => exact ⟨q + 1, vI', _, vW', xv, by omega, by go_num, by rw [show 4 * (q + 1) = 4 * q + 4 by omega]; exact HBK6.out, hbw6⟩
        case measure => simp [intOf]; omega
    · have hqe : 4 * q = 16 := by omega
      rw [hqe] at hbk
      clear hqe
      go_wp2_with fail
      refine (ends_step wr w.heap.size w.heap.size 16 vI vC vW xs hbk (by decide) (by decide) hbw.size (Nat.le_refl _)).mono ?_
      rintro e w7 ⟨rfl, hb7⟩
      go_wp2
      go_ret
      exact ⟨rfl, hbw.trans hb7⟩
end Go.Proofs.Ytcpldcojckhapaa
