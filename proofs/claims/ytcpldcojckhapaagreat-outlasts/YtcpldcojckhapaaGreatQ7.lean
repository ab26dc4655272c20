/-
  A request that has come over a Stream to this unit: what take does with it where its answer waits behind others, and nothing is flushed.
-/
import Derived.Test.YtcpldcojckhapaaGreatQ6
set_option maxRecDepth 100000
namespace Go.Proofs.YtcpldcojckhapaaGreat
open Go.RowKit

theorem wt_dev : ∀ t, devT t = false → wtT t = false := fun t h => by
  simp only [devT, wtT, Bool.or_eq_false_iff] at h ⊢
  exact ⟨h.1.1.1.1, h.2⟩
theorem dansw_step (d L S i : Nat) (E : Nat → Nat) (wv : Value) (D : Dev) (s : ByteArray) (w : World) (h : DevIn w d L S E wv D) (hu : 0 < D.uns) (hl : D.wait.length ≤ 1000) (hx : ∀ y ∈ D.wait, y.1 < (D.arr : Int)) :
    Calls Tryz.prog 81 #[.pointer (some ⟨d, 0, none⟩), .int .i64 (i : Nat), .string s] w fun e w' => ∃ v, e = .returned v ∧ (v = .slice none 0 0 ∧ ∃ v', DevIn w' d L S E v' { D with wait := D.wait ++ [((D.arr : Int), ((i : Nat) : Int), s)] } ∧ FtT D.base wtT w w') :=
  (dansw_wait d L S i E wv D s w h hu hl hx).mono fun _ _ h => by obtain ⟨v', h1, h2, h3⟩ := h; exact ⟨_, h1, rfl, v', h2, h3⟩
set_option maxRecDepth 100000 in
set_option maxHeartbeats 2000000 in
theorem take_waitF (d L S i m : Nat) (E : Nat → Nat) (wv : Value) (D : Dev) (s r : ByteArray) (f : Nat → Nat → Int) (w : World) (h : DevIn w d L S E wv D) (hi : i < D.nl) (hk : (D.ln i).kind = 0) (hm : m < 65536) (hun : D.unit < 256) (ha : D.arr ≤ 1000000) (hr : r.size ≤ 253) (hdo : DoIs d L S E wv D s r false f) (hu : 0 < D.uns) (hwl : D.wait.length + 1 < D.batch) (hub : D.uns < D.batch) (hx : ∀ y ∈ D.wait, y.1 < ((D.arr + 1 : Nat) : Int)) (hw1 : D.wait.length ≤ 1000) (_hbb : D.batch ≤ 1000) :
    Calls Tryz.prog 57 #[.pointer (some ⟨d, 0, none⟩), .int .i64 (i : Nat), .agg #[.int .i64 (m : Nat), .int .i64 (D.unit : Nat), .string s]] w fun e w' => ∃ v', e = .returned (.slice none 0 0) ∧ DevIn w' d L S E v' { D with arr := D.arr + 1, ent := f, wait := D.wait ++ [(((D.arr + 1 : Nat) : Int), ((i : Nat) : Int), streamB m D.unit r)] } ∧ FtT D.base devT w w' := by
  obtain ⟨aw, cw, rfl, _⟩ := own_view h.wait
  obtain ⟨c0, c1, c2, c11, c12, c13, c14, cf, hdl⟩ := h.cells
  obtain ⟨W, hW⟩ : ∃ W, W = w.alloc (.cells #[.int .i64 (m : Nat), .int .i64 (D.unit : Nat), .string s] 94) := ⟨_, rfl⟩
  have hWb : Below w.heap.size w W := by rw [hW]; exact bel_alloc (Below.refl _ _) _
  have hWg : W.heap[w.heap.size]? = some (.cells #[.int .i64 (m : Nat), .int .i64 (D.unit : Nat), .string s] 94 (0, 0)) := by rw [hW]; exact heap_alloc_new w _
  have hWl : W.heap.size = w.heap.size + 1 := by rw [hW]; simp
  have HH := hideF h
  have HWb := hideF hWb
  have HWg := hideF hWg
  have HDO := hideF hdo
  have HXX := hideF hx
  clear h hWb hWg hdo hx
  go_enter Tryz.func57, Tryz.ntmps57
  go_wp2_with fail
  rw [← hW]
  clear hW
  refine (newRequest_any s W).mono ?_
  rintro e w1 ⟨x, v, k, rfl, hown, hsh, hlen, hb⟩
  unfold reqV
  obtain ⟨av, cv, rfl, _⟩ := own_view hown
  obtain ⟨X, hX⟩ : ∃ X, X = w1.alloc (.cells #[.string s, .int .i64 (x.fn : Nat), .int .i64 (x.tab : Nat), .int .i64 (x.frm : Nat), .int .i64 (x.cnt : Nat), .int .i64 (x.into : Nat), .int .i64 (x.to : Nat), .int .i64 (x.many : Nat), .slice av x.vals.length cv, .int .u8 (k : Nat)] 146) := ⟨_, rfl⟩
  have hX1 : Below w1.heap.size w1 X := by rw [hX]; exact bel_alloc (Below.refl _ _) _
  have hXb : Below w.heap.size w X := bel_then (bel_then HWb.out hb) hX1
  have hXg : X.heap[w.heap.size]? = some (.cells #[.int .i64 (m : Nat), .int .i64 (D.unit : Nat), .string s] 94 (0, 0)) := (hX1.block _ (by have := hb.size; omega)).trans ((hb.block _ (by omega)).trans HWg.out)
  have hXr : X.heap[w1.heap.size]? = some (.cells #[.string s, .int .i64 (x.fn : Nat), .int .i64 (x.tab : Nat), .int .i64 (x.frm : Nat), .int .i64 (x.cnt : Nat), .int .i64 (x.into : Nat), .int .i64 (x.to : Nat), .int .i64 (x.many : Nat), .slice av x.vals.length cv, .int .u8 (k : Nat)] 146 (0, 0)) := by rw [hX]; exact heap_alloc_new w1 _
  have HXO := hideF (ownsRow_below hown hX1)
  have HXb := hideF hXb
  have HXg := hideF hXg
  have HXr := hideF hXr
  have hsz1 : w.heap.size < w1.heap.size := by have := hb.size; omega
  have HSH := hideF hsh
  have HD := hideF (HH.out.belowQ hXb)
  clear c0 c1 c2 c11 c12 c13 c14 cf hown hsh hb hX1
  obtain ⟨c0, c1, c2, c11, c12, c13, c14, cf, hdX⟩ := HD.out.cells
  obtain ⟨g0, g1, g2, gf⟩ := cells3f hXg
  clear hXb hXg hXr
  go_wp2_with fail
  rw [← hX]
  clear hX
  go_quiet (fail)
  obtain ⟨Y, hY⟩ : ∃ Y, Y = X.drewN nq := ⟨_, rfl⟩
  have hYb : Below X.heap.size X Y := by rw [hY]; exact below_drewN (Below.refl _ _) _
  rw [← hY]
  clear hY
  have HYb := hideF (bel_then HXb.out hYb)
  have hYg := (hYb.block _ (lt_of_block HXg.out)).trans HXg.out
  have hYr := (hYb.block _ (lt_of_block HXr.out)).trans HXr.out
  have HYO := hideF (ownsRow_below HXO.out hYb)
  have HYD := hideF (HD.out.belowQ hYb)
  have HYg := hideF hYg
  have HYr := hideF hYr
  clear c0 c1 c2 c11 c12 c13 c14 cf g0 g1 g2 gf hdX HXb HXg HXr HXO HD
  obtain ⟨c0, c1, c2, c11, c12, c13, c14, cf, hdY⟩ := HYD.out.cells
  clear hYb hYg hYr
  go_wp2_with fail
  obtain ⟨Z, hZ⟩ : ∃ Z, Z = (Y.setCell ⟨d, 12, none⟩ (.int .i64 ((D.arr : Int) + 1))).drew := ⟨_, rfl⟩
  have hdg : d ≠ w.heap.size := by omega
  have hdr : d ≠ w1.heap.size := by omega
  have HZD : Hid (DevIn Z d L S E (.slice aw D.wait.length cw) { D with arr := D.arr + 1 }) := by
    rw [hZ]
    have := (HYD.out.setArr (D.arr + 1)).drewN 1
    rw [show ((D.arr + 1 : Nat) : Int) = (D.arr : Int) + 1 by omega] at this
    exact this
  have hZr : Z.heap[w1.heap.size]? = Y.heap[w1.heap.size]? := by rw [hZ]; exact heap_setCell_other Y ⟨d, 12, none⟩ w1.heap.size _ (by simpa using fun e => hdr e.symm)
  have hZg : Z.heap[w.heap.size]? = Y.heap[w.heap.size]? := by rw [hZ]; exact heap_setCell_other Y ⟨d, 12, none⟩ w.heap.size _ (by simpa using fun e => hdg e.symm)
  have HZr := hideF (hZr.trans HYr.out)
  have HZg := hideF (hZg.trans HYg.out)
  have HZO : Hid (Z.ownsRow W.heap.size 3 1 (.slice av x.vals.length cv) x.vals.length (x.vals.flatMap encI)) := by
    rw [hZ]
    exact own_drew (own_same HYO.out (fun g hg => heap_setCell_other Y ⟨d, 12, none⟩ g _ (by have := (HYO.out.lt g hg).1; simp; omega)))
  have HZF : Hid (FtT D.base devT w Z) := by
    rw [hZ]
    exact ((FtT.of_below devT HYb.out).setCell HYD.out.dev rfl HYD.out.lo.1 _ _).drewN 1
  have HDO2 : Hid (Calls Tryz.prog 80 #[.agg #[.string s, .int .i64 (x.fn : Nat), .int .i64 (x.tab : Nat), .int .i64 (x.frm : Nat), .int .i64 (x.cnt : Nat), .int .i64 (x.into : Nat), .int .i64 (x.to : Nat), .int .i64 (x.many : Nat), .slice av x.vals.length cv, .int .u8 (k : Nat)], .pointer (some ⟨d, 3, none⟩)] ((Y.setCell ⟨d, 12, none⟩ (.int .i64 ((D.arr : Int) + 1))).drew) fun e w' => ∃ v, e = .returned v ∧ (v = .tuple #[.string r, .bool false] ∧ DevIn w' d L S E (.slice aw D.wait.length cw) { D with arr := D.arr + 1, ent := f } ∧ ∃ j, j < 4 ∧ Chg1 (E j) Z w')) := by
    rw [← hZ]
    exact (HDO.out x _ k _ Z HSH.out HZD.out HZO.out).mono fun e w' h => ⟨_, h.1, rfl, h.2.1, h.2.2⟩
  obtain ⟨r0, r1, r2, r3, r4, r5, r6, r7, r8, r9⟩ := cells10 HYr.out
  have hsY := HYb.out.size
  have HZs : Hid (Y.heap.size = Z.heap.size) := by rw [hZ]; show _ = _; simp
  clear hZ hZr hZg
  go_region_law (first
    | (refine step_call rfl 80 #[.tmp 45, .tmp 48] #[146, 151] rfl #[.agg #[.string s, .int .i64 (x.fn : Nat), .int .i64 (x.tab : Nat), .int .i64 (x.frm : Nat), .int .i64 (x.cnt : Nat), .int .i64 (x.into : Nat), .int .i64 (x.to : Nat), .int .i64 (x.many : Nat), .slice av x.vals.length cv, .int .u8 (k : Nat)], .pointer (some ⟨d, 3, none⟩)] (by simp [Act.eval]) (enter81 _ _ _) _ HDO2.out ?_; rintro vv w4 ⟨rfl, hd4, j4, hj4, hc4⟩))
  all_goals
    obtain ⟨ce, hce⟩ := (HZD.out.ent j4 hj4).block
    have hEj := (HH.out.ent j4 hj4).lt
    have HF4 := hideF (HZF.out.trans (FtT.chg hc4 hce rfl (HZD.out.lo.2.2.2 j4 hj4)))
    have hg4 := (hc4.block w.heap.size (lt_of_block HZg.out) (by omega)).trans HZg.out
    have HD4 := hideF hd4
    have hs4 : w.heap.size < w4.heap.size := lt_of_block hg4
    have HG4 := hideF hg4
    clear c0 c1 c2 c11 c12 c13 c14 cf r0 r1 r2 r3 r4 r5 r6 r7 r8 r9 hce hc4 hd4 HYb HYD HYg HYr HYO HZD HZr HZg HZO HZF HDO2 HZs
    obtain ⟨c0, c1, c2, c11, c12, c13, c14, cf, hd4⟩ := HD4.out.cells
    obtain ⟨g0, g1, g2, gf⟩ := cells3f hg4
    clear hg4
    go_wp2_with fail
    go_quiet (fail)
    obtain ⟨V, hV⟩ : ∃ V, V = w4.drewN nq := ⟨_, rfl⟩
    have hVb : Below w4.heap.size w4 V := by rw [hV]; exact below_drewN (Below.refl _ _) _
    rw [← hV]
    clear hV
    have HDV := hideF (HD4.out.belowQ hVb)
    have hgV := (hVb.block _ hs4).trans HG4.out
    have HFV := hideF (HF4.out.then_below hVb)
    have HGV := hideF hgV
    have hsV := lt_of_block hgV
    clear c0 c1 c2 c11 c12 c13 c14 cf g0 g1 g2 gf hVb HD4 HG4 HF4 hd4
    obtain ⟨c0, c1, c2, c11, c12, c13, c14, cf, hdV⟩ := HDV.out.cells
    obtain ⟨g0, g1, g2, gf⟩ := cells3f hgV
    clear hgV
    go_wp2_with fail
    obtain ⟨U, hU⟩ : ∃ U, U = V.setCell ⟨w.heap.size, 2, none⟩ (.string r) := ⟨_, rfl⟩
    have HDU : Hid (DevIn U d L S E (.slice aw D.wait.length cw) { D with arr := D.arr + 1, ent := f }) := by rw [hU]; exact HDV.out.keep ((FtT.refl (B := 0) (fun t => t == 94) V).setCell HGV.out rfl (Nat.zero_le _) _ _) rfl rfl rfl rfl rfl
    have HFU : Hid (FtT D.base devT w U) := by rw [hU]; exact HFV.out.setNew _ _ (Nat.le_refl _) _
    have hgU : U.heap[w.heap.size]? = some (.cells #[.int .i64 (m : Nat), .int .i64 (D.unit : Nat), .string r] 94 (0, 0)) := by rw [hU]; exact heap_setCell_same V _ 2 _ 94 (.string r) HGV.out
    rw [← hU]
    clear hU c0 c1 c2 c11 c12 c13 c14 cf g0 g1 g2 gf HDV HGV HFV hsV hdV
    obtain ⟨c0, c1, c2, c11, c12, c13, c14, cf, hdU⟩ := HDU.out.cells
    obtain ⟨g0, g1, g2, gf⟩ := cells3f hgU
    have hsU := lt_of_block hgU
    clear hgU
    have hiI : (i : Int) < (D.nl : Int) := by omega
    have HFR : Hid (Calls Tryz.prog 82 #[.pointer (some ⟨L, i * 3, none⟩), .agg #[.int .i64 (m : Nat), .int .i64 (D.unit : Nat), .string r]] U.drew fun e w' => ∃ v, e = .returned v ∧ (v = .string (streamB m D.unit r) ∧ Below U.drew.heap.size U.drew w')) := (framed_stream L i D.nl m D.unit r D.ln U.drew (HDU.out.drewN 1).lines hi hk hm hun hr).mono fun e w' h => ⟨_, h.1, rfl, h.2⟩
    go_region_law (first
      | (refine step_call rfl 82 #[.tmp 76, .tmp 77] #[116, 94] rfl #[.pointer (some ⟨L, i * 3, none⟩), .agg #[.int .i64 (m : Nat), .int .i64 (D.unit : Nat), .string r]] (by simp [Act.eval, Act.put]) (enter83 _ _ _) _ HFR.out ?_; rintro vv w5 ⟨rfl, hb5⟩; have hd5 := (HDU.out.drewN 1).belowQ hb5)
      | (refine step_call rfl 81 #[.tmp 69, .tmp 70, .tmp 78] #[49, 3, 9] rfl #[.pointer (some ⟨d, 0, none⟩), .int .i64 (i : Nat), .string (streamB m D.unit r)] (by simp [Act.eval]) (enter82 _ _ _ _) _ (dansw_step d L S i E _ _ (streamB m D.unit r) _ hd5 (by first | exact Nat.succ_pos _ | exact hu) hw1 HXX.out) ?_; rintro vv w6 ⟨rfl, v6, hd6, hf6⟩))
    all_goals
      have HF6 := hideF ((HFU.out.then_below (below_then_drew1 hb5)).trans (hf6.mono wt_dev))
      have HD6 := hideF hd6
      obtain ⟨a6, k6, rfl, _⟩ := own_view hd6.wait
      clear c0 c1 c2 c11 c12 c13 c14 cf g0 g1 g2 gf hb5 hd6 hf6 hd5 HFR
      obtain ⟨c0, c1, c2, c11, c12, c13, c14, cf, hd6⟩ := HD6.out.cells
      simp only [List.length_append, List.length_singleton] at c14
      have q1 : decide ((D.batch : Int) ≤ ((D.wait.length + 1 : Nat) : Int)) = false := by simp; omega
      have q2 : decide ((D.batch : Int) ≤ (D.uns : Int)) = false := by simp; omega
      have q3 : decide ((D.batch : Int) ≤ (D.wait.length : Int) + 1) = false := by simp; omega
      go_wp2_with fail
      go_quiet (fail)
      go_wp2
      go_ret
      exact ⟨_, rfl, HD6.out.drewN _, HF6.out.drewN _⟩
end Go.Proofs.YtcpldcojckhapaaGreat
