/-
  Package pdu: the requests that mask and that exchange: what they answer.
-/
import Derived.Test.YtcpldcojckhapaaW4
namespace Go.Proofs.Ytcpldcojckhapaa
open Go.RowKit

theorem enter54 (x : Value) (w : World) : (callFunc 69 #[x]).run Try.prog w = .ok (.enter 69 #[x]) w := by kernel_rfl
theorem words_facts {w w2 : World} {k n : Nat} {v : Value} {xs : List Value} (hb : Below ((w.alloc (.cells #[.int .i64 0, .int .i64 0, .int .i64 0, .int .i64 0, .int .i64 0, .int .i64 0, .int .i64 0, .slice none 0 0] 48)).drewN k).heap.size ((w.alloc (.cells #[.int .i64 0, .int .i64 0, .int .i64 0, .int .i64 0, .int .i64 0, .int .i64 0, .int .i64 0, .slice none 0 0] 48)).drewN k) w2)
    (hown : w2.ownsRow ((w.alloc (.cells #[.int .i64 0, .int .i64 0, .int .i64 0, .int .i64 0, .int .i64 0, .int .i64 0, .int .i64 0, .slice none 0 0] 48)).drewN k).heap.size 3 1 v n xs) :
    w2.heap[w.heap.size]? = some (.cells #[.int .i64 0, .int .i64 0, .int .i64 0, .int .i64 0, .int .i64 0, .int .i64 0, .int .i64 0, .slice none 0 0] 48 (0, 0)) ∧ w2.ownsRow (w.heap.size + 1) 3 1 v n xs ∧ Below w.heap.size w w2 := by
  obtain ⟨X, hX⟩ : ∃ X, X = (w.alloc (.cells #[.int .i64 0, .int .i64 0, .int .i64 0, .int .i64 0, .int .i64 0, .int .i64 0, .int .i64 0, .slice none 0 0] 48)).drewN k := ⟨_, rfl⟩
  have hXb : Below w.heap.size w X := by rw [hX]; exact below_drewN (bel_alloc (Below.refl _ _) _) _
  have hXs : X.heap.size = w.heap.size + 1 := by rw [hX]; simp
  have hXg : X.heap[w.heap.size]? = some (.cells #[.int .i64 0, .int .i64 0, .int .i64 0, .int .i64 0, .int .i64 0, .int .i64 0, .int .i64 0, .slice none 0 0] 48 (0, 0)) := by rw [hX]; exact heap_alloc_new w _
  rw [← hX] at hb hown
  exact ⟨(hb.block _ (by omega)).trans hXg, by rw [← hXs]; exact hown, bel_then hXb hb⟩

set_option maxRecDepth 100000 in
set_option maxHeartbeats 2000000 in
theorem masking_any (s : ByteArray) (w : World) (_hs : s.size ≤ 100000) :
    Calls Try.prog 49 #[.string s] w fun e w' => PartIs w w' e (s.size = 6) ⟨0, 2, Pl.wd s 0, 1, 2, Pl.wd s 0, 1, Pl.wordsL s 2 2⟩ := by
  by_cases h4 : s.size = 6
  · have t4 : ((s.size : Int) != 6) = false := by simp; omega
    have hl : 2 ≤ s.size := by omega
    have hl' : (2 : Int) ≤ s.size := by omega
    have c2 : ∀ W : World, Calls Try.prog 69 #[.string (s.extract 2 s.size)] W fun e w' => ∃ v, e = .returned v ∧ (w'.ownsRow W.heap.size 3 1 v 2 ((Pl.wordsL s 2 2).flatMap encI) ∧ Below W.heap.size W w') := fun W => by
      have := pwords_any (s.extract 2 s.size) 2 W (by simp; omega) (by simp; omega)
      rwa [Pl.wordsL_suffix] at this
    have H4 := hideF h4
    clear h4
    go_enter Try.func49, Try.ntmps49
    go_wp2_with fail
    go_region_law (first
      | (refine step_call rfl 64 #[.tmp 10] #[9] rfl #[.string s] (by simp [Act.eval, Act.put]) (enter50 _ _) _ (pword_step s _ hl) ?_; rintro v w1 ⟨rfl, n1, rfl⟩)
      | (refine step_call rfl 69 #[.tmp 13] #[9] rfl #[.string (s.extract 2 s.size)] (by simp [Act.eval]) (enter54 _ _) _ (c2 _) ?_; rintro v w2 ⟨hown, hb2⟩; obtain ⟨hYg, how, hbw⟩ := words_facts hb2 hown; obtain ⟨ad, c, rfl, _⟩ := own_view how; obtain ⟨hz, c0, c1, c2, c3, c4, c5, c6, c7⟩ := cells8 hYg; clear hb2 hYg hown))
    all_goals go_wp2
    all_goals
      refine bodyPost_ret (v := .tuple #[.agg #[.int .i64 0, .int .i64 2, .int .i64 (Pl.wd s 0 : Nat), .int .i64 1, .int .i64 2, .int .i64 (Pl.wd s 0 : Nat), .int .i64 1, .slice ad 2 c], .bool true]) (by simp [results, Try.results49, go_sem, c0, c1, c2, c3, c4, c5, c6, c7]) rfl
        ⟨⟨0, 2, Pl.wd s 0, 1, 2, Pl.wd s 0, 1, Pl.wordsL s 2 2⟩, _, true, rfl, by rw [Pl.wordsL_len]; exact own8 how (Nat.le_refl _) _ _ _ _ _ _ _ _, ?_, ?_, by rw [Pl.wordsL_len]; omega, bel8 hbw (Nat.le_refl _) _ _ _ _ _ _ _ _⟩
    all_goals simp [H4.out]
  · have t4 : ((s.size : Int) != 6) = true := by simp; omega
    go_enter Try.func49, Try.ntmps49
    go_wp2
    refine bodyPost_ret (v := .tuple #[.agg #[.int .i64 0, .int .i64 0, .int .i64 0, .int .i64 0, .int .i64 0, .int .i64 0, .int .i64 0, .slice none 0 0], .bool false]) (by simp [results, Try.results49, go_sem]) rfl
      ⟨Pl.noShp, .slice none 0 0, false, rfl, World.ownsRow_nil _ _ _ _, by simp [h4], by simp, by simp [Pl.noShp], ?_⟩
    exact (Below.refl _ _).alloc (Nat.le_refl _) _

theorem wd_head (s : ByteArray) (k : Nat) (hk : k + 1 < 4) (h : 4 ≤ s.size) : Pl.wd (s.extract 0 4) k = Pl.wd s k := by
  unfold Pl.wd
  rw [Pl.byt_extract s 0 4 k h (by omega), Pl.byt_extract s 0 4 (k + 1) h (by omega), Nat.zero_add, Nat.zero_add]
set_option maxRecDepth 100000 in
set_option maxHeartbeats 4000000 in
theorem exchanging_any (s : ByteArray) (w : World) (hs : s.size ≤ 100000) :
    Calls Try.prog 50 #[.string s] w fun e w' => PartIs w w' e (9 ≤ s.size ∧ (1 ≤ Pl.wd s 2 ∧ Pl.wd s 2 ≤ 125) ∧ (1 ≤ Pl.wd s 6 ∧ Pl.wd s 6 ≤ 121) ∧ s.size - 9 = Pl.byt s 8 ∧ s.size - 9 = 2 * Pl.wd s 6) ⟨0, 2, Pl.wd s 0, Pl.wd s 2, 2, Pl.wd s 4, Pl.wd s 6, Pl.wordsL s 9 (Pl.wd s 6)⟩ := by
  by_cases h4 : s.size < 4
  · go_enter Try.func50, Try.ntmps50
    go_wp2
    refine bodyPost_ret (v := .tuple #[.agg #[.int .i64 0, .int .i64 0, .int .i64 0, .int .i64 0, .int .i64 0, .int .i64 0, .int .i64 0, .slice none 0 0], .bool false]) (by simp [results, Try.results50, go_sem]) rfl
      ⟨Pl.noShp, .slice none 0 0, false, rfl, World.ownsRow_nil _ _ _ _, by simp; omega, by simp, by simp [Pl.noShp], ?_⟩
    exact (Below.refl _ _).alloc (Nat.le_refl _) _
  · have l4 : (4 : Int) ≤ s.size := by omega
    have e4 : (s.extract 0 4).size = 4 := by simp; omega
    have f4 : (s.extract 4 s.size).size = s.size - 4 := by simp
    have E4 := hideF e4
    have F4 := hideF f4
    clear e4 f4
    go_enter Try.func50, Try.ntmps50
    go_wp2_with fail
    obtain ⟨X, hX⟩ : ∃ X, X = w.alloc (.cells #[.int .i64 0, .int .i64 0, .int .i64 0, .int .i64 0, .int .i64 0, .int .i64 0, .int .i64 0, .slice none 0 0] 48) := ⟨_, rfl⟩
    have hXb : Below w.heap.size w X := by rw [hX]; exact bel_alloc (Below.refl _ _) _
    have hXs : X.heap.size = w.heap.size + 1 := by rw [hX]; simp
    have hXg : X.heap[w.heap.size]? = some (.cells #[.int .i64 0, .int .i64 0, .int .i64 0, .int .i64 0, .int .i64 0, .int .i64 0, .int .i64 0, .slice none 0 0] 48 (0, 0)) := by rw [hX]; exact heap_alloc_new w _
    rw [← hX]
    clear hX
    refine (reading_any 2 125 (s.extract 0 4) X (by rw [E4.out]; omega) (by omega)).mono ?_
    rintro e w1 ⟨x, v1, r1, rfl, hown1, hr1, hx1, _, hb1⟩
    obtain ⟨xf, xt, xa, xc, xi, xo, xm, xv⟩ := x
    have HR1 := hideF hr1
    have HX1 := hideF hx1
    obtain ⟨a1, k1, rfl, _⟩ := own_view hown1
    clear hr1 hx1 hown1
    simp only [shV]
    go_wp2_with fail
    obtain ⟨X1, hX1⟩ : ∃ X1, X1 = w1.alloc (.cells #[.int .i64 (xf : Nat), .int .i64 (xt : Nat), .int .i64 (xa : Nat), .int .i64 (xc : Nat), .int .i64 (xi : Nat), .int .i64 (xo : Nat), .int .i64 (xm : Nat), .slice a1 xv.length k1] 48) := ⟨_, rfl⟩
    rw [← hX1]
    obtain ⟨g1, hg1⟩ : ∃ g1, g1 = w1.heap.size := ⟨_, rfl⟩
    have hX1b : Below w1.heap.size w1 X1 := by rw [hX1]; exact bel_alloc (Below.refl _ _) _
    have hX1g : X1.heap[g1]? = some (.cells #[.int .i64 (xf : Nat), .int .i64 (xt : Nat), .int .i64 (xa : Nat), .int .i64 (xc : Nat), .int .i64 (xi : Nat), .int .i64 (xo : Nat), .int .i64 (xm : Nat), .slice a1 xv.length k1] 48 (0, 0)) := by rw [hX1, hg1]; exact heap_alloc_new w1 _
    have hX1s : X1.heap.size = g1 + 1 := by rw [hX1, hg1]; simp
    have hXg1 : X1.heap[w.heap.size]? = _ := (hX1b.block _ (by have := hb1.size; omega)).trans ((hb1.block _ (by omega)).trans hXg)
    have hgl1 : w.heap.size < g1 := by rw [hg1]; have := hb1.size; omega
    have hbX1 : Below w.heap.size w X1 := bel_then (bel_then hXb hb1) hX1b
    rw [← hg1]
    clear hX1 hg1 hX1b hXb hb1 hXg hXs
    refine (settingHolders_any 121 (s.extract 4 s.size) X1 (by rw [F4.out]; omega) (by omega)).mono ?_
    rintro e w2 ⟨y, v2, r2, rfl, hown2, hr2, hy2, hyl, hb2⟩
    obtain ⟨yf, yt, ya, yc, yi, yo, ym, yv⟩ := y
    have HR2 := hideF hr2
    have HY2 := hideF hy2
    have HYL := hideF hyl
    obtain ⟨a2, k2, rfl, _⟩ := own_view hown2
    clear hr2 hy2 hyl
    simp only [shV]
    go_wp2_with fail
    obtain ⟨X2, hX2⟩ : ∃ X2, X2 = w2.alloc (.cells #[.int .i64 (yf : Nat), .int .i64 (yt : Nat), .int .i64 (ya : Nat), .int .i64 (yc : Nat), .int .i64 (yi : Nat), .int .i64 (yo : Nat), .int .i64 (ym : Nat), .slice a2 yv.length k2] 48) := ⟨_, rfl⟩
    rw [← hX2]
    obtain ⟨g2, hg2⟩ : ∃ g2, g2 = w2.heap.size := ⟨_, rfl⟩
    have hX2b : Below w2.heap.size w2 X2 := by rw [hX2]; exact bel_alloc (Below.refl _ _) _
    have hX2g : X2.heap[g2]? = some (.cells #[.int .i64 (yf : Nat), .int .i64 (yt : Nat), .int .i64 (ya : Nat), .int .i64 (yc : Nat), .int .i64 (yi : Nat), .int .i64 (yo : Nat), .int .i64 (ym : Nat), .slice a2 yv.length k2] 48 (0, 0)) := by rw [hX2, hg2]; exact heap_alloc_new w2 _
    have hgl2 : g1 < g2 := by rw [hg2]; have := hb2.size; omega
    have hXg2 : X2.heap[w.heap.size]? = _ := (hX2b.block _ (by have := hb2.size; omega)).trans ((hb2.block _ (by omega)).trans hXg1)
    have hX1g2 : X2.heap[g1]? = _ := (hX2b.block _ (by have := hb2.size; omega)).trans ((hb2.block _ (by omega)).trans hX1g)
    have hbX2 : Below w.heap.size w X2 := bel_then (bel_then hbX1 hb2) hX2b
    have how2 : X2.ownsRow (w.heap.size + 1) 3 1 (.slice a2 yv.length k2) yv.length (yv.flatMap encI) := own_base (ownsRow_below hown2 hX2b) (by omega)
    have hap : ∀ g, Value.ownBlock (.slice a2 yv.length k2) = some g → g < g2 := fun g hg => by have := (hown2.lt g hg).2; omega
    rw [← hg2]
    clear hX2 hg2 hX2b hbX1 hb2 hown2 hX1g hXg1 hX1s
    obtain ⟨fz, c0, c1, c2, c3, c4, c5, c6, c7⟩ := cells8 hXg2
    obtain ⟨fy, d0, d1, d2, d3, d4, d5, d6, d7⟩ := cells8 hX1g2
    obtain ⟨fx, e0, e1, e2, e3, e4, e5, e6, e7⟩ := cells8 hX2g
    have HO := hideF how2
    have HAP := hideF hap
    have HB := hideF hbX2
    have n1 : ¬ w.heap.size = g2 := by omega
    have n2 : ¬ g2 = w.heap.size := by omega
    have n3 : ¬ g1 = g2 := by omega
    have n4 : ¬ g2 = g1 := by omega
    have HXg2 := hideF hXg2
    have HX2g := hideF hX2g
    clear how2 hap hbX2 hXg2 hX1g2 hX2g
    go_wp2_with fail
    go_region
    obtain ⟨X4, hX4⟩ : ∃ X4, X4 = ((X2.setCell ⟨g2, 1, none⟩ (.int .i64 (xt : Nat))).setCell ⟨g2, 2, none⟩ (.int .i64 (xa : Nat))).setCell ⟨g2, 3, none⟩ (.int .i64 (xc : Nat)) := ⟨_, rfl⟩
    rw [← hX4]
    obtain ⟨X3, hX3⟩ : ∃ X3, X3 = X4.drew := ⟨_, rfl⟩
    have hh : X3.heap = X4.heap := by rw [hX3]; rfl
    have hb4 : Below w.heap.size w X4 := by rw [hX4]; exact ((HB.out.setCell (p := ⟨g2, 1, none⟩) (by simp; omega) _).setCell (p := ⟨g2, 2, none⟩) (by simp; omega) _).setCell (p := ⟨g2, 3, none⟩) (by simp; omega) _
    have b6 : Below w.heap.size w X3 := by rw [hX3]; exact hb4.drew
    rw [← hX3]
    clear hX3 hb4
    have b3 : X3.heap[w.heap.size]? = some (.cells #[.int .i64 0, .int .i64 0, .int .i64 0, .int .i64 0, .int .i64 0, .int .i64 0, .int .i64 0, .slice none 0 0] 48 (0, 0)) := by
      rw [hh, hX4, heap_setCell_other _ _ _ _ n1, heap_setCell_other _ _ _ _ n1, heap_setCell_other _ _ _ _ n1]; exact HXg2.out
    have b4 : X3.heap[g2]? = some (.cells #[.int .i64 (yf : Nat), .int .i64 (xt : Nat), .int .i64 (xa : Nat), .int .i64 (xc : Nat), .int .i64 (yi : Nat), .int .i64 (yo : Nat), .int .i64 (ym : Nat), .slice a2 yv.length k2] 48 (0, 0)) := by
      rw [hh, hX4]; exact heap_setCell_same _ g2 3 _ 48 _ (heap_setCell_same _ g2 2 _ 48 _ (heap_setCell_same _ g2 1 _ 48 _ HX2g.out))
    have b5 : X3.ownsRow (w.heap.size + 1) 3 1 (.slice a2 yv.length k2) yv.length (yv.flatMap encI) := own_same HO.out fun k hk => by
      have hkg : k ≠ g2 := by have := HAP.out k hk; omega
      rw [hh, hX4, heap_setCell_other _ _ _ _ hkg, heap_setCell_other _ _ _ _ hkg, heap_setCell_other _ _ _ _ hkg]
    clear hX4 hh fz c0 c1 c2 c3 c4 c5 c6 c7 fy d0 d1 d2 d3 d4 d5 d6 d7 fx e0 e1 e2 e3 e4 e5 e6 e7
    obtain ⟨fz, c0, c1, c2, c3, c4, c5, c6, c7⟩ := cells8 b3
    obtain ⟨fx, e0, e1, e2, e3, e4, e5, e6, e7⟩ := cells8 b4
    clear b3 b4
    have HB5 := hideF b5
    have HB6 := hideF b6
    clear b5 b6
    cases r1 with
    | false =>
      go_wp2
      refine bodyPost_ret (v := .tuple #[.agg #[.int .i64 (yf : Nat), .int .i64 (xt : Nat), .int .i64 (xa : Nat), .int .i64 (xc : Nat), .int .i64 (yi : Nat), .int .i64 (yo : Nat), .int .i64 (ym : Nat), .slice a2 yv.length k2], .bool false]) (by simp [results, Try.results50, go_sem, c0, c1, c2, c3, c4, c5, c6, c7]) rfl
        ⟨⟨yf, xt, xa, xc, yi, yo, ym, yv⟩, _, false, rfl, own8 HB5.out (Nat.le_refl _) _ _ _ _ _ _ _ _, ?_, by simp, HYL.out, bel8 HB6.out (Nat.le_refl _) _ _ _ _ _ _ _ _⟩
      have hr := HR1.out
      rw [wd_head s 2 (by omega) (by omega), E4.out] at hr
      simp at hr ⊢
      intro _ h1 h2
      omega
    | true =>
      go_wp2
      refine bodyPost_ret (v := .tuple #[.agg #[.int .i64 (yf : Nat), .int .i64 (xt : Nat), .int .i64 (xa : Nat), .int .i64 (xc : Nat), .int .i64 (yi : Nat), .int .i64 (yo : Nat), .int .i64 (ym : Nat), .slice a2 yv.length k2], .bool r2]) (by simp [results, Try.results50, go_sem, c0, c1, c2, c3, c4, c5, c6, c7]) rfl
        ⟨⟨yf, xt, xa, xc, yi, yo, ym, yv⟩, _, r2, rfl, own8 HB5.out (Nat.le_refl _) _ _ _ _ _ _ _ _, ?_, ?_, HYL.out, bel8 HB6.out (Nat.le_refl _) _ _ _ _ _ _ _ _⟩
      · have hr := HR1.out
        rw [wd_head s 2 (by omega) (by omega), E4.out] at hr
        simp at hr
        rw [HR2.out, Pl.wd_suffix, Pl.byt_suffix, F4.out]
        simp only [Nat.reduceAdd]
        constructor
        · intro h; refine ⟨by omega, hr, ?_, ?_, ?_⟩ <;> omega
        · intro h; refine ⟨by omega, ?_, ?_, ?_⟩ <;> omega
      · intro hrt
        have hx := HX1.out (by simp)
        have hy := HY2.out hrt
        rw [wd_head s 2 (by omega) (by omega), wd_head s 0 (by omega) (by omega)] at hx
        rw [Pl.wd_suffix, Pl.wd_suffix, Pl.wordsL_suffix] at hy
        simp only [Pl.Shp.mk.injEq] at hx hy ⊢
        simp [hx, hy]
end Go.Proofs.Ytcpldcojckhapaa
