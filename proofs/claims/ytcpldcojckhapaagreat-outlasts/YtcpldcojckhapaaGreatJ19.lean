/-
  A request that has come over a Stream to this unit: what take does with it where its answer waits behind others, and nothing is flushed.
  Flush, where no coil is kept and some answer waits: what it does.
-/
import Derived.Test.YtcpldcojckhapaaGreatJ18
import Derived.Test.YtcpldcojckhapaaGreatJ16
set_option maxRecDepth 100000
namespace Go.Proofs.YtcpldcojckhapaaGreat
open Go.RowKit

theorem wt_dev : ∀ t, devT t = false → wtT t = false := fun t h => by
  simp only [devT, wtT, Bool.or_eq_false_iff] at h ⊢
  exact ⟨h.1.1.1.1, h.2⟩
theorem dansw_step (d L S i : Nat) (E : Nat → Nat) (wv : Value) (D : Dev) (s : ByteArray) (w : World) (h : DevIn w d L S E wv D) (hu : 0 < D.uns) (hl : D.wait.length ≤ 1000) (hx : ∀ y ∈ D.wait, y.1 < (D.arr : Int)) :
    Calls Tryz.prog 81 #[.pointer (some ⟨d, 0, none⟩), .int .i64 (i : Nat), .string s] w fun e w' => ∃ v, e = .returned v ∧ (v = .slice none 0 0 ∧ ∃ v', DevIn w' d L S E v' { D with wait := D.wait ++ [((D.arr : Int), ((i : Nat) : Int), s)] } ∧ FtT D.base wtT w w') :=
  (dansw_wait d L S i E wv D s w h hu hl hx).mono fun _ _ h => by obtain ⟨v', h1, h2, h3⟩ := h; exact ⟨_, h1, rfl, v', h2, h3⟩
set_option maxRecDepth 100000 in
set_option maxHeartbeats 2000000 in
theorem take_waitF (d L S i m : Nat) (E : Nat → Nat) (wv : Value) (D : Dev) (s r : ByteArray) (f : Nat → Nat → Int) (w : World) (h : DevIn w d L S E wv D) (hi : i < D.nl) (hk : (D.ln i).kind = 0) (hm : m < 65536) (hun : D.unit < 256) (ha : D.arr ≤ 1000000) (hr : r.size ≤ 253) (hdo : DoIs d L S E wv D s r false f) (hu : 0 < D.uns) (hwl : D.wait.length + 1 < D.batch) (hub : D.uns < D.batch) (hx : ∀ y ∈ D.wait, y.1 < ((D.arr + 1 : Nat) : Int)) (hw1 : D.wait.length ≤ 1000) (_hbb : D.batch ≤ 1000) :
    Calls Tryz.prog 57 #[.pointer (some ⟨d, 0, none⟩), .int .i64 (i : Nat), .agg #[.int .i64 (m : Nat), .int .i64 (D.unit : Nat), .string s]] w fun e w' => ∃ v', e = .returned (.slice none 0 0) ∧ DevIn w' d L S E v' { D with arr := D.arr + 1, ent := f, wait := D.wait ++ [(((D.arr + 1 : Nat) : Int), ((i : Nat) : Int), streamB m D.unit r)] } ∧ FtT D.base devT w w' := by
  obtain ⟨aw, cw, rfl, _⟩ := own_view h.wait
  obtain ⟨c0, c1, c2, c11, c12, c13, c14, cf, hdl⟩ := h.cells
  obtain ⟨W, hW⟩ : ∃ W, W = w.alloc (.cells #[.int .i64 (m : Nat), .int .i64 (D.unit : Nat), .string s] 94) := ⟨_, rfl⟩
  have hWb : Below w.heap.size w W := by rw [hW]; exact bel_alloc (Below.refl _ _) _
  have hWg : W.heap[w.heap.size]? = some (.cells #[.int .i64 (m : Nat), .int .i64 (D.unit : Nat), .string s] 94 (0, 0)) := by rw [hW]; exact heap_alloc_new w _
  have hWl : W.heap.size = w.heap.size + 1 := by rw [hW]; simp
  have HH := hideF h
  have HWb := hideF hWb
  have HWg := hideF hWg
  have HDO := hideF hdo
  have HXX := hideF hx
  clear h hWb hWg hdo hx
  go_enter Tryz.func57, Tryz.ntmps57
  go_wp2_with fail
  rw [← hW]
  clear hW
  refine (newRequest_any s W).mono ?_
  rintro e w1 ⟨x, v, k, rfl, hown, hsh, hlen, hb⟩
  unfold reqV
  obtain ⟨av, cv, rfl, _⟩ := own_view hown
  obtain ⟨X, hX⟩ : ∃ X, X = w1.alloc (.cells #[.string s, .int .i64 (x.fn : Nat), .int .i64 (x.tab : Nat), .int .i64 (x.frm : Nat), .int .i64 (x.cnt : Nat), .int .i64 (x.into : Nat), .int .i64 (x.to : Nat), .int .i64 (x.many : Nat), .slice av x.vals.length cv, .int .u8 (k : Nat)] 146) := ⟨_, rfl⟩
  have hX1 : Below w1.heap.size w1 X := by rw [hX]; exact bel_alloc (Below.refl _ _) _
  have hXb : Below w.heap.size w X := bel_then (bel_then HWb.out hb) hX1
  have hXg : X.heap[w.heap.size]? = some (.cells #[.int .i64 (m : Nat), .int .i64 (D.unit : Nat), .string s] 94 (0, 0)) := (hX1.block _ (by have := hb.size; omega)).trans ((hb.block _ (by omega)).trans HWg.out)
  have hXr : X.heap[w1.heap.size]? = some (.cells #[.string s, .int .i64 (x.fn : Nat), .int .i64 (x.tab : Nat), .int .i64 (x.frm : Nat), .int .i64 (x.cnt : Nat), .int .i64 (x.into : Nat), .int .i64 (x.to : Nat), .int .i64 (x.many : Nat), .slice av x.vals.length cv, .int .u8 (k : Nat)] 146 (0, 0)) := by rw [hX]; exact heap_alloc_new w1 _
  have HXO := hideF (ownsRow_below hown hX1)
  have HXb := hideF hXb
  have HXg := hideF hXg
  have HXr := hideF hXr
  have hsz1 : w.heap.size < w1.heap.size := by have := hb.size; omega
  have HSH := hideF hsh
  have HD := hideF (HH.out.belowQ hXb)
  clear c0 c1 c2 c11 c12 c13 c14 cf hown hsh hb hX1
  obtain ⟨c0, c1, c2, c11, c12, c13, c14, cf, hdX⟩ := HD.out.cells
  obtain ⟨g0, g1, g2, gf⟩ := cells3f hXg
  clear hXb hXg hXr
  go_wp2_with fail
  rw [← hX]
  clear hX
  go_quiet (fail)
  obtain ⟨Y, hY⟩ : ∃ Y, Y = X.drewN nq := ⟨_, rfl⟩
  have hYb : Below X.heap.size X Y := by rw [hY]; exact below_drewN (Below.refl _ _) _
  rw [← hY]
  clear hY
  have HYb := hideF (bel_then HXb.out hYb)
  have hYg := (hYb.block _ (lt_of_block HXg.out)).trans HXg.out
  have hYr := (hYb.block _ (lt_of_block HXr.out)).trans HXr.out
  have HYO := hideF (ownsRow_below HXO.out hYb)
  have HYD := hideF (HD.out.belowQ hYb)
  have HYg := hideF hYg
  have HYr := hideF hYr
  clear c0 c1 c2 c11 c12 c13 c14 cf g0 g1 g2 gf hdX HXb HXg HXr HXO HD
  obtain ⟨c0, c1, c2, c11, c12, c13, c14, cf, hdY⟩ := HYD.out.cells
  clear hYb hYg hYr
  go_wp2_with fail
  obtain ⟨Z, hZ⟩ : ∃ Z, Z = (Y.setCell ⟨d, 12, none⟩ (.int .i64 ((D.arr : Int) + 1))).drew := ⟨_, rfl⟩
  have hdg : d ≠ w.heap.size := by omega
  have hdr : d ≠ w1.heap.size := by omega
  have HZD : Hid (DevIn Z d L S E (.slice aw D.wait.length cw) { D with arr := D.arr + 1 }) := by
    rw [hZ]
    have := (HYD.out.setArr (D.arr + 1)).drewN 1
    rw [show ((D.arr + 1 : Nat) : Int) = (D.arr : Int) + 1 by omega] at this
    exact this
  have hZr : Z.heap[w1.heap.size]? = Y.heap[w1.heap.size]? := by rw [hZ]; exact heap_setCell_other Y ⟨d, 12, none⟩ w1.heap.size _ (by simpa using fun e => hdr e.symm)
  have hZg : Z.heap[w.heap.size]? = Y.heap[w.heap.size]? := by rw [hZ]; exact heap_setCell_other Y ⟨d, 12, none⟩ w.heap.size _ (by simpa using fun e => hdg e.symm)
  have HZr := hideF (hZr.trans HYr.out)
  have HZg := hideF (hZg.trans HYg.out)
  have HZO : Hid (Z.ownsRow W.heap.size 3 1 (.slice av x.vals.length cv) x.vals.length (x.vals.flatMap encI)) := by
    rw [hZ]
    exact own_drew (own_same HYO.out (fun g hg => heap_setCell_other Y ⟨d, 12, none⟩ g _ (by have := (HYO.out.lt g hg).1; simp; omega)))
  have HZF : Hid (FtT D.base devT w Z) := by
    rw [hZ]
    exact ((FtT.of_below devT HYb.out).setCell HYD.out.dev rfl HYD.out.lo.1 _ _).drewN 1
  have HDO2 : Hid (Calls Tryz.prog 80 #[.agg #[.string s, .int .i64 (x.fn : Nat), .int .i64 (x.tab : Nat), .int .i64 (x.frm : Nat), .int .i64 (x.cnt : Nat), .int .i64 (x.into : Nat), .int .i64 (x.to : Nat), .int .i64 (x.many : Nat), .slice av x.vals.length cv, .int .u8 (k : Nat)], .pointer (some ⟨d, 3, none⟩)] ((Y.setCell ⟨d, 12, none⟩ (.int .i64 ((D.arr : Int) + 1))).drew) fun e w' => ∃ v, e = .returned v ∧ (v = .tuple #[.string r, .bool false] ∧ DevIn w' d L S E (.slice aw D.wait.length cw) { D with arr := D.arr + 1, ent := f } ∧ ∃ j, j < 4 ∧ Chg1 (E j) Z w')) := by
    rw [← hZ]
    exact (HDO.out x _ k _ Z HSH.out HZD.out HZO.out).mono fun e w' h => ⟨_, h.1, rfl, h.2.1, h.2.2⟩
  obtain ⟨r0, r1, r2, r3, r4, r5, r6, r7, r8, r9⟩ := cells10 HYr.out
  have hsY := HYb.out.size
  have HZs : Hid (Y.heap.size = Z.heap.size) := by rw [hZ]; show _ = _; simp
  clear hZ hZr hZg
  go_region_law (first
    | (refine step_call rfl 80 #[.tmp 45, .tmp 48] #[146, 151] rfl #[.agg #[.string s, .int .i64 (x.fn : Nat), .int .i64 (x.tab : Nat), .int .i64 (x.frm : Nat), .int .i64 (x.cnt : Nat), .int .i64 (x.into : Nat), .int .i64 (x.to : Nat), .int .i64 (x.many : Nat), .slice av x.vals.length cv, .int .u8 (k : Nat)], .pointer (some ⟨d, 3, none⟩)] (by simp [Act.eval]) (enter81 _ _ _) _ HDO2.out ?_; rintro vv w4 ⟨rfl, hd4, j4, hj4, hc4⟩))
  all_goals
    obtain ⟨ce, hce⟩ := (HZD.out.ent j4 hj4).block
    have hEj := (HH.out.ent j4 hj4).lt
    have HF4 := hideF (HZF.out.trans (FtT.chg hc4 hce rfl (HZD.out.lo.2.2.2 j4 hj4)))
    have hg4 := (hc4.block w.heap.size (lt_of_block HZg.out) (by omega)).trans HZg.out
    have HD4 := hideF hd4
    have hs4 : w.heap.size < w4.heap.size := lt_of_block hg4
    have HG4 := hideF hg4
    clear c0 c1 c2 c11 c12 c13 c14 cf r0 r1 r2 r3 r4 r5 r6 r7 r8 r9 hce hc4 hd4 HYb HYD HYg HYr HYO HZD HZr HZg HZO HZF HDO2 HZs
    obtain ⟨c0, c1, c2, c11, c12, c13, c14, cf, hd4⟩ := HD4.out.cells
    obtain ⟨g0, g1, g2, gf⟩ := cells3f hg4
    clear hg4
    go_wp2_with fail
    go_quiet (fail)
    obtain ⟨V, hV⟩ : ∃ V, V = w4.drewN nq := ⟨_, rfl⟩
    have hVb : Below w4.heap.size w4 V := by rw [hV]; exact below_drewN (Below.refl _ _) _
    rw [← hV]
    clear hV
    have HDV := hideF (HD4.out.belowQ hVb)
    have hgV := (hVb.block _ hs4).trans HG4.out
    have HFV := hideF (HF4.out.then_below hVb)
    have HGV := hideF hgV
    have hsV := lt_of_block hgV
    clear c0 c1 c2 c11 c12 c13 c14 cf g0 g1 g2 gf hVb HD4 HG4 HF4 hd4
    obtain ⟨c0, c1, c2, c11, c12, c13, c14, cf, hdV⟩ := HDV.out.cells
    obtain ⟨g0, g1, g2, gf⟩ := cells3f hgV
    clear hgV
    go_wp2_with fail
    obtain ⟨U, hU⟩ : ∃ U, U = V.setCell ⟨w.heap.size, 2, none⟩ (.string r) := ⟨_, rfl⟩
    have HDU : Hid (DevIn U d L S E (.slice aw D.wait.length cw) { D with arr := D.arr + 1, ent := f }) := by rw [hU]; exact HDV.out.keep ((FtT.refl (B := 0) (fun t => t == 94) V).setCell HGV.out rfl (Nat.zero_le _) _ _) rfl rfl rfl rfl rfl
    have HFU : Hid (FtT D.base devT w U) := by rw [hU]; exact HFV.out.setNew _ _ (Nat.le_refl _) _
    have hgU : U.heap[w.heap.size]? = some (.cells #[.int .i64 (m : Nat), .int .i64 (D.unit : Nat), .string r] 94 (0, 0)) := by rw [hU]; exact heap_setCell_same V _ 2 _ 94 (.string r) HGV.out
    rw [← hU]
    clear hU c0 c1 c2 c11 c12 c13 c14 cf g0 g1 g2 gf HDV HGV HFV hsV hdV
    obtain ⟨c0, c1, c2, c11, c12, c13, c14, cf, hdU⟩ := HDU.out.cells
    obtain ⟨g0, g1, g2, gf⟩ := cells3f hgU
    have hsU := lt_of_block hgU
    clear hgU
    have hiI : (i : Int) < (D.nl : Int) := by omega
    have HFR : Hid (Calls Tryz.prog 82 #[.pointer (some ⟨L, i * 3, none⟩), .agg #[.int .i64 (m : Nat), .int .i64 (D.unit : Nat), .string r]] U.drew fun e w' => ∃ v, e = .returned v ∧ (v = .string (streamB m D.unit r) ∧ Below U.drew.heap.size U.drew w')) := (framed_stream L i D.nl m D.unit r D.ln U.drew (HDU.out.drewN 1).lines hi hk hm hun hr).mono fun e w' h => ⟨_, h.1, rfl, h.2⟩
    go_region_law (first
      | (refine step_call rfl 82 #[.tmp 76, .tmp 77] #[116, 94] rfl #[.pointer (some ⟨L, i * 3, none⟩), .agg #[.int .i64 (m : Nat), .int .i64 (D.unit : Nat), .string r]] (by simp [Act.eval, Act.put]) (enter83 _ _ _) _ HFR.out ?_; rintro vv w5 ⟨rfl, hb5⟩; have hd5 := (HDU.out.drewN 1).belowQ hb5)
      | (refine step_call rfl 81 #[.tmp 69, .tmp 70, .tmp 78] #[49, 3, 9] rfl #[.pointer (some ⟨d, 0, none⟩), .int .i64 (i : Nat), .string (streamB m D.unit r)] (by simp [Act.eval]) (enter82 _ _ _ _) _ (dansw_step d L S i E _ _ (streamB m D.unit r) _ hd5 (by first | exact Nat.succ_pos _ | exact hu) hw1 HXX.out) ?_; rintro vv w6 ⟨rfl, v6, hd6, hf6⟩))
    all_goals
      have HF6 := hideF ((HFU.out.then_below (below_then_drew1 hb5)).trans (hf6.mono wt_dev))
      have HD6 := hideF hd6
      obtain ⟨a6, k6, rfl, _⟩ := own_view hd6.wait
      clear c0 c1 c2 c11 c12 c13 c14 cf g0 g1 g2 gf hb5 hd6 hf6 hd5 HFR
      obtain ⟨c0, c1, c2, c11, c12, c13, c14, cf, hd6⟩ := HD6.out.cells
      simp only [List.length_append, List.length_singleton] at c14
      have q1 : decide ((D.batch : Int) ≤ ((D.wait.length + 1 : Nat) : Int)) = false := by simp; omega
      have q2 : decide ((D.batch : Int) ≤ (D.uns : Int)) = false := by simp; omega
      have q3 : decide ((D.batch : Int) ≤ (D.wait.length : Int) + 1) = false := by simp; omega
      go_wp2_with fail
      go_quiet (fail)
      go_wp2
      go_ret
      exact ⟨_, rfl, HD6.out.drewN _, HF6.out.drewN _⟩
end Go.Proofs.YtcpldcojckhapaaGreat

set_option maxRecDepth 100000
namespace Go.Proofs.YtcpldcojckhapaaGreat
open Go.RowKit

theorem enter59 (x y : Value) (w : World) : (callFunc 58 #[x, y]).run Tryz.prog w = .ok (.enter 58 #[x, y]) w := by kernel_rfl
theorem enter60 (x : Value) (w : World) : (callFunc 59 #[x]).run Tryz.prog w = .ok (.enter 59 #[x]) w := by kernel_rfl
theorem DevIn.saved {w w' : World} {d L S : Nat} {E : Nat → Nat} {wv : Value} {D : Dev} {lat st : Nat} (h : DevIn w d L S E wv D) (hc : Chg1 S w w') (hS : w'.heap[S]? = some (.cells #[.int .i64 (D.sec : Nat), .int .i64 (lat : Nat), .int .u8 (st : Nat)] 155 (0, 0))) : DevIn w' d L S E wv { D with lat := lat, stamp := st } := by
  obtain ⟨cl, hcl⟩ := h.lines.block
  refine ⟨(hc.block d (lt_of_block h.dev) (ne_of_types h.dev h.store (by decide))).trans h.dev, h.lines.same (hc.block L (lt_of_block hcl) (ne_of_types hcl h.store (by decide))), fun i hi => ?_, h.inj, hS, own_same h.wait (fun g hg => ?_), h.lo⟩
  · obtain ⟨ce, hce⟩ := (h.ent i hi).block
    exact (h.ent i hi).same (hc.block (E i) (lt_of_block hce) (ne_of_types hce h.store (by decide)))
  · obtain ⟨cg, hcg⟩ := own_block h.wait g hg
    exact hc.block g (lt_of_block hcg) (ne_of_types hcg h.store (by decide))
theorem saveA_len (sec lat st : Nat) (d : ByteArray) : (saveA sec lat st d).length = sec + 1 := by simp [saveA]
set_option maxRecDepth 100000 in
set_option maxHeartbeats 2000000 in
theorem flush_any (d L S lat' st' : Nat) (E : Nat → Nat) (wv : Value) (D : Dev) (l : List Nat) (R : List (Int × Int × ByteArray) → List (Int × Int × ByteArray) → Prop) (hR : ∀ h s, R h s → h.length = s.length) (hP : Pops D.base d R) (s : List (Int × Int × ByteArray)) (w : World) (h : DevIn w d L S E wv D) (hu : 0 < D.uns) (hk0 : D.kp 0 = 0) (hk2 : D.kp 2 ≤ D.sz 2) (hs2 : D.sz 2 ≤ 1000) (hl : l.length = D.kp 2) (h16 : ∀ x ∈ l, x < 65536) (hv : ∀ j x, l[j]? = some x → D.ent 2 j = (x : Nat))
    (hsec : D.sec ≤ 64) (hfit : ∀ i, i < D.sec → i * 62 ≤ 2 * D.kp 2) (hlat : D.lat ≤ 1) (hst : D.stamp ≤ 3) (hl' : lat' = (D.lat + 1) % 2) (hs' : st' = D.stamp % 3 + 1) (hrs : R D.wait s) (hsl : s.length ≤ 1000) (hs0 : 0 < s.length) :
    Calls Tryz.prog 24 #[.pointer (some ⟨d, 0, none⟩)] w fun e w' => ∃ v, e = .returned v ∧ w'.ownsRow w.heap.size 77 4 v (D.sec + 1 + s.length) ((saveA D.sec lat' st' (wordsB l) ++ s.map sendOf).flatMap encA) ∧ DevIn w' d L S E (.slice none 0 0) { D with lat := lat', stamp := st', uns := 0, wait := [] } ∧ FtT D.base devT w w' := by
  obtain ⟨i0, hi, hz0, hz1, hz2⟩ := info_parts Tryz.infoEA
  obtain ⟨c0, c1, c2, c11, c12, c13, c14, cf, hdl⟩ := h.cells
  have hu' : ((D.uns : Int) == 0) = false := by rw [beq_eq_false_iff_ne]; omega
  have hE2 := (h.ent 2 (by omega)).lt
  have HK : Hid (Calls Tryz.prog 59 #[.pointer (some ⟨d, 3, none⟩)] w.drew fun e w' => ∃ v, e = .returned v ∧ (v = .string (wordsB l) ∧ Below w.drew.heap.size w.drew w')) := by
    have hD := h.drewN 1
    refine (kept_any l d (E 0) (E 2) (D.sz 0) (D.sz 2) (D.kp 2) (w.drewN 1) hl hk2 (by omega) h16 hE2 (fun j x hj => ?_) (hD.cellE (i := 0) (by omega)) (hD.cellE (i := 2) (by omega)) (by have := hD.cellK (i := 0) (by omega); rw [hk0] at this; exact this) (hD.cellK (i := 2) (by omega))).mono fun e w' h => ⟨_, h.1, rfl, h.2⟩
    have hjl : j < l.length := (List.getElem?_eq_some_iff.1 hj).1
    have := (hD.ent 2 (by omega)).cell (i := j) (j := 0) (by omega) (by omega)
    rw [Nat.mul_one, Nat.add_zero] at this
    rw [this, hv j x hj]
  have hzl : (wordsB l).size = 2 * D.kp 2 := by
    have e : (wordsB l).size = (wordsI l).length := by simp [wordsB, bytesOf, ByteArray.size]
    rw [e, wordsI_len, hl]
  have HFIT : Hid (∀ i, i < D.sec → i * 62 ≤ (wordsB l).size) := fun i hi => by rw [hzl]; exact hfit i hi
  have HZL := hideF hzl
  have HH := hideF h
  have HL := hideF hl'
  have HS := hideF hs'
  have HR := hideF hR
  have HP := hideF hP
  have HRS := hideF hrs
  clear h hv hl' hs' hR hP hrs hfit hzl h16 hl
  go_enter Tryz.func24, Tryz.ntmps24
  go_wp2_with fail
  go_region_law (first
    | (refine step_call rfl 59 #[.tmp 15] #[104] rfl #[.pointer (some ⟨d, 3, none⟩)] (by simp [Act.eval, Act.put]) (enter60 _ _) _ HK.out ?_; rintro vv w1 ⟨rfl, hb1⟩; have hd1 := (HH.out.drewN 1).belowQ hb1; obtain ⟨k0, k1, k2, k11, k12, k13, k14, kf, hdk⟩ := hd1.cells)
    | (refine step_call rfl 58 #[.tmp 12, .tmp 16] #[106, 9] rfl #[.pointer (some ⟨S, 0, none⟩), .string (wordsB l)] (by simp [Act.eval]) (enter59 _ _ _) _ (save_any S D.sec D.lat D.stamp lat' st' (wordsB l) _ hd1.store hsec HFIT.out (by rw [HZL.out]; omega) hlat hst HL.out HS.out) ?_; rintro vv w2 ⟨hown2, hst2, hch2⟩))
  all_goals
    obtain ⟨a2, p2, rfl, _⟩ := own_view hown2
    have hbw1 := below_then_drew1 hb1
    have HD2 := hideF (hd1.saved hch2 hst2)
    have HF2 := hideF ((FtT.of_below (B := D.base) devT hbw1).trans (FtT.chg hch2 hd1.store rfl hd1.lo.2.2.1))
    have HO2 := hideF (own_base (B := w.heap.size) hown2 hbw1.size)
    clear c0 c1 c2 c11 c12 c13 c14 cf k0 k1 k2 k11 k12 k13 k14 kf hown2 hst2 hch2 hd1 hb1 hbw1 HK
    obtain ⟨c0, c1, c2, c11, c12, c13, c14, cf, hd2⟩ := HD2.out.cells
    go_wp2_with fail
    obtain ⟨Y, hY⟩ : ∃ Y, Y = w2.setCell ⟨d, 13, none⟩ (.int .i64 0) := ⟨_, rfl⟩
    have HDY : Hid (DevIn Y d L S E wv { D with lat := lat', stamp := st', uns := 0 }) := by rw [hY]; exact HD2.out.setUns 0
    have HFY : Hid (FtT D.base devT w Y) := by rw [hY]; exact HF2.out.setCell HD2.out.dev rfl HD2.out.lo.1 _ _
    have HOY : Hid (Y.ownsRow w.heap.size 77 4 (.slice a2 (D.sec + 1) p2) (D.sec + 1) ((saveA D.sec lat' st' (wordsB l)).flatMap encA)) := by
      rw [hY]; exact own_same HO2.out (fun g hg => by obtain ⟨cg, hcg⟩ := own_block HO2.out g hg; exact heap_setCell_other w2 ⟨d, 13, none⟩ g _ (ne_of_types hcg HD2.out.dev (by decide)))
    rw [← hY]
    clear hY c0 c1 c2 c11 c12 c13 c14 cf HD2 HF2 HO2 hd2
    refine (sendAll_any d R HR.out HP.out _ wv D.wait s Y hsl HRS.out HDY.out.waitIn).mono ?_
    rintro e w3 ⟨v3, rfl, hown3, hw3, hf3⟩
    have HD3 := hideF (HDY.out.ofWait hw3 hf3)
    have HF3 := hideF (HFY.out.trans (hf3.mono wt_dev))
    have HO3 := hideF (own_same (w' := w3) HOY.out (fun g hg => by obtain ⟨cg, hcg⟩ := own_block HOY.out g hg; exact hf3.keep g cg 77 hcg rfl))
    have hsY := HFY.out.size
    have hs3 := HF3.out.size
    obtain ⟨a3, p3, rfl, hat3⟩ := own_view hown3
    obtain ⟨g3, rfl, hg3, hc3⟩ := hat3 0 hs0
    have hln : ((s.map sendOf).flatMap encA).length = s.length * 4 := by rw [flat_len encA 4 (fun _ => rfl), List.length_map]
    have HC3 : Hid (∀ j u, ((s.map sendOf).flatMap encA)[j]? = some u → w3.cell? ((⟨g3, 0, none⟩ : Addr).add j) = some u) := fun j u hj => by
      have hjl : j < ((s.map sendOf).flatMap encA).length := (List.getElem?_eq_some_iff.1 hj).1
      have e : (⟨g3, 0, none⟩ : Addr).add j = ⟨g3, j, none⟩ := by by_cases h0 : j = 0 <;> simp [Addr.add, h0]
      rw [e, hc3 j (by omega), hj]
    have HLN := hideF hln
    clear hown3 hw3 hf3 hat3 hc3 hln HDY HFY HOY
    go_wp2_with (at_builtin; refine wpList_append_own _ rfl (.tmp 21) (.tmp 25) 31 rfl w.heap.size 77 i0 _ 4 40 Tryz.underlying31 hi hz0 hz1 hz2 rfl (by decide) _ (D.sec + 1) _ rfl HO3.out ⟨g3, 0, none⟩ s.length p3 ((s.map sendOf).flatMap encA) rfl HLN.out HC3.out (encA_one _) (by unfold maxLen; omega) (by omega) (by omega) ?_; intro v' w4 hown4 hgrow4 _; obtain ⟨a4, p4, rfl, _⟩ := own_view hown4)
    go_ret
    refine ⟨_, rfl, ?_, ?_, HF3.out.grown_new hgrow4 (fun k hk => (HO3.out.lt k hk).1)⟩
    · rw [List.flatMap_append]; exact hown4
    · exact HD3.out.keep ((FtT.refl (B := 0) (fun t => t == 77) w3).grown hgrow4 (fun k hk => ⟨Nat.zero_le _, own_block HO3.out k hk⟩) rfl) rfl rfl rfl rfl rfl
end Go.Proofs.YtcpldcojckhapaaGreat
