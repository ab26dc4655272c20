/-
  
-/
import Derived.Test.YtcpldcojckhapaaGreatJ28
import Derived.Test.YtcpldcojckhapaaGreatJ29
set_option maxRecDepth 100000
namespace Go.Proofs.YtcpldcojckhapaaGreat
open Go.RowKit
def DoIs (d L S : Nat) (E : Nat -> Nat) (wv : Value) (D : Dev) (s r : ByteArray) (b : Bool) (f : Nat -> Nat -> Int) : Prop :=
  ∀ (x : Pl.Shp) (v : Value) (k B : Nat) (w : World), Pl.ShpIs s x k -> DevIn w d L S E wv { D with arr := D.arr + 1 } -> w.ownsRow B 3 1 v x.vals.length (x.vals.flatMap encI) ->
    Calls Tryz.prog 80 #[reqV s x v k, .pointer (some ⟨d, 3, none⟩)] w fun e w' => e = .returned (.tuple #[.string r, .bool b]) /\ DevIn w' d L S E wv { D with arr := D.arr + 1, ent := f } /\ ∃ j, j < 4 /\ Chg1 (E j) w w'
section
variable {w : World} {d L S : Nat} {E : Nat -> Nat} {wv : Value} {D : Dev}
theorem DevIn.other (h : DevIn w d L S E wv D) {v : Value} {k : Nat} {D' : Dev} (hd : (devC D L S E wv).setIfInBounds k v = devC D' L S E wv) (h1 : D'.nl = D.nl) (h2 : D'.ln = D.ln) (h3 : D'.sz = D.sz) (h4 : D'.ent = D.ent) (h5 : D'.sec = D.sec) (h6 : D'.lat = D.lat) (h7 : D'.stamp = D.stamp) (h8 : D'.wait = D.wait) (h9 : D'.base = D.base) :
    DevIn (w.setCell ⟨d, k, none⟩ v) d L S E wv D' := by
  obtain ⟨cl, hcl⟩ := h.lines.block
  refine ⟨?_, ?_, fun i hi => ?_, h.inj, ?_, ?_, by rw [h9]; exact h.lo⟩
  . rw [heap_setCell_same w d k _ 110 v h.dev, hd]
  . rw [h1, h2]; exact h.lines.set_other _ (ne_of_types hcl h.dev (by decide)) _
  . obtain ⟨ce, hce⟩ := (h.ent i hi).block
    rw [h3, h4]; exact (h.ent i hi).set_other _ (ne_of_types hce h.dev (by decide)) _
  . rw [heap_setCell_other _ _ _ _ (ne_of_types h.store h.dev (by decide)), h5, h6, h7]; exact h.store
  . rw [h8, h9]
    exact own_same h.wait (fun g hg => by obtain ⟨cg, hcg⟩ := own_block h.wait g hg; exact heap_setCell_other _ _ _ _ (ne_of_types hcg h.dev (by decide)))
theorem DevIn.setArr (h : DevIn w d L S E wv D) (n : Nat) : DevIn (w.setCell ⟨d, 12, none⟩ (.int .i64 (n : Nat))) d L S E wv { D with arr := n } := h.other rfl rfl rfl rfl rfl rfl rfl rfl rfl rfl
theorem DevIn.setUns (h : DevIn w d L S E wv D) (n : Nat) : DevIn (w.setCell ⟨d, 13, none⟩ (.int .i64 (n : Nat))) d L S E wv { D with uns := n } := h.other rfl rfl rfl rfl rfl rfl rfl rfl rfl rfl
end
theorem FtT.chg {B : Nat} {T : Nat -> TypeId -> Bool} {g : Nat} {w w' : World} {cur : Array Value} {t : TypeId} (h : Chg1 g w w') (hg : w.heap[g]? = some (.cells cur t (0, 0))) (ht : T g t = true) (hB : B <= g) : FtT B T w w' :=
  ⟨h.os, h.tape, h.output, h.size, fun k c t' hk ht' => h.block k (lt_of_block hk) (fun e => by
    subst e
    rw [type_one hk hg, ht] at ht'
    exact absurd ht' (by decide)), fun k hkB hks => h.block k hks (by omega)⟩
theorem FtT.setNew {B : Nat} {T : Nat -> TypeId -> Bool} {a w : World} (h : FtT B T a w) (g k : Nat) (hg : a.heap.size <= g) (v : Value) : FtT B T a (w.setCell ⟨g, k, none⟩ v) :=
  ⟨h.os, h.tape, h.output, Nat.le_trans h.size (by simp), fun g' cur t hk ht => (heap_setCell_other w _ _ v (by have := lt_of_block hk; simp; omega)).trans (h.keep g' cur t hk ht), fun g' hg' hs' => (heap_setCell_other w _ _ v (by show g' ≠ g; omega)).trans (h.low g' hg' hs')⟩
theorem DevIn.keep {B : Nat} {T : Nat -> TypeId -> Bool} {w w' : World} {d L S : Nat} {E : Nat -> Nat} {wv : Value} {D : Dev} (h : DevIn w d L S E wv D) (hf : FtT B T w w') (h1 : ∀ g, T g 110 = false) (h2 : ∀ g, T g 116 = false) (h3 : ∀ g, T g 3 = false) (h4 : ∀ g, T g 155 = false) (h5 : ∀ g, T g 163 = false) : DevIn w' d L S E wv D := by
  obtain ⟨cl, hcl⟩ := h.lines.block
  refine ⟨(hf.keep d _ 110 h.dev (h1 _)).trans h.dev, h.lines.same (hf.keep L cl 116 hcl (h2 _)), fun i hi => ?_, h.inj, (hf.keep S _ 155 h.store (h4 _)).trans h.store, own_same h.wait (fun g hg => ?_), h.lo⟩
  . obtain ⟨ce, hce⟩ := (h.ent i hi).block
    exact (h.ent i hi).same (hf.keep (E i) ce 3 hce (h3 _))
  . obtain ⟨cg, hcg⟩ := own_block h.wait g hg
    exact hf.keep g cg 163 hcg (h5 _)
theorem enter82 (x y z : Value) (w : World) : (callFunc 81 #[x, y, z]).run Tryz.prog w = .ok (.enter 81 #[x, y, z]) w := by kernel_rfl
theorem enter83 (x y : Value) (w : World) : (callFunc 82 #[x, y]).run Tryz.prog w = .ok (.enter 82 #[x, y]) w := by kernel_rfl
theorem enter81 (x y : Value) (w : World) : (callFunc 80 #[x, y]).run Tryz.prog w = .ok (.enter 80 #[x, y]) w := by kernel_rfl
set_option maxRecDepth 100000 in
set_option maxHeartbeats 2000000 in
theorem take_now (d L S i m : Nat) (E : Nat -> Nat) (wv : Value) (D : Dev) (s r : ByteArray) (f : Nat -> Nat -> Int) (w : World) (h : DevIn w d L S E wv D) (hi : i < D.nl) (hk : (D.ln i).kind = 0) (hm : m < 65536) (hun : D.unit < 256) (ha : D.arr <= 1000000000) (hr : r.size <= 253) (hdo : DoIs d L S E wv D s r false f) (hu : D.uns = 0) (hwl : D.wait.length < D.batch) (hb1 : 0 < D.batch) :
    Calls Tryz.prog 57 #[.pointer (some ⟨d, 0, none⟩), .int .i64 (i : Nat), .agg #[.int .i64 (m : Nat), .int .i64 (D.unit : Nat), .string s]] w fun e w' => ∃ v, e = .returned v /\ w'.ownsRow w.heap.size 77 4 v 1 ([(2, 0, ((i : Nat) : Int), streamB m D.unit r)].flatMap encA) /\ DevIn w' d L S E wv { D with arr := D.arr + 1, ent := f } /\ FtT D.base (devT d L S E) w w' := by
  obtain ⟨aw, cw, rfl, _⟩ := own_view h.wait
  obtain ⟨c0, c1, c2, c11, c12, c13, c14, cf, hdl⟩ := h.cells
  obtain ⟨W, hW⟩ : ∃ W, W = w.alloc (.cells #[.int .i64 (m : Nat), .int .i64 (D.unit : Nat), .string s] 94) := ⟨_, rfl⟩
  have hWb : Below w.heap.size w W := by rw [hW]; exact bel_alloc (Below.refl _ _) _
  have hWg : W.heap[w.heap.size]? = some (.cells #[.int .i64 (m : Nat), .int .i64 (D.unit : Nat), .string s] 94 (0, 0)) := by rw [hW]; exact heap_alloc_new w _
  have hWl : W.heap.size = w.heap.size + 1 := by rw [hW]; simp
  have HH := hideF h
  have HWb := hideF hWb
  have HWg := hideF hWg
  have HDO := hideF hdo
  clear h hWb hWg hdo
  go_enter Tryz.func57, Tryz.ntmps57
  go_wp2_with fail
  rw [<- hW]
  clear hW
  refine (newRequest_any s W).mono ?_
  rintro e w1 ⟨x, v, k, rfl, hown, hsh, hlen, hb⟩
  unfold reqV
  obtain ⟨av, cv, rfl, _⟩ := own_view hown
  obtain ⟨X, hX⟩ : ∃ X, X = w1.alloc (.cells #[.string s, .int .i64 (x.fn : Nat), .int .i64 (x.tab : Nat), .int .i64 (x.frm : Nat), .int .i64 (x.cnt : Nat), .int .i64 (x.into : Nat), .int .i64 (x.to : Nat), .int .i64 (x.many : Nat), .slice av x.vals.length cv, .int .u8 (k : Nat)] 146) := ⟨_, rfl⟩
  have hX1 : Below w1.heap.size w1 X := by rw [hX]; exact bel_alloc (Below.refl _ _) _
  have hXb : Below w.heap.size w X := bel_then (bel_then HWb.out hb) hX1
  have hXg : X.heap[w.heap.size]? = some (.cells #[.int .i64 (m : Nat), .int .i64 (D.unit : Nat), .string s] 94 (0, 0)) := (hX1.block _ (by have := hb.size; omega)).trans ((hb.block _ (by omega)).trans HWg.out)
  have hXr : X.heap[w1.heap.size]? = some (.cells #[.string s, .int .i64 (x.fn : Nat), .int .i64 (x.tab : Nat), .int .i64 (x.frm : Nat), .int .i64 (x.cnt : Nat), .int .i64 (x.into : Nat), .int .i64 (x.to : Nat), .int .i64 (x.many : Nat), .slice av x.vals.length cv, .int .u8 (k : Nat)] 146 (0, 0)) := by rw [hX]; exact heap_alloc_new w1 _
  have HXO := hideF (ownsRow_below hown hX1)
  have HXb := hideF hXb
  have HXg := hideF hXg
  have HXr := hideF hXr
  have hsz1 : w.heap.size < w1.heap.size := by have := hb.size; omega
  have HSH := hideF hsh
  have HD := hideF (HH.out.belowQ hXb)
  clear c0 c1 c2 c11 c12 c13 c14 cf hown hsh hb hX1
  obtain ⟨c0, c1, c2, c11, c12, c13, c14, cf, hdX⟩ := HD.out.cells
  obtain ⟨g0, g1, g2, gf⟩ := cells3f hXg
  clear hXb hXg hXr
  go_wp2_with fail
  rw [<- hX]
  clear hX
  go_quiet (fail)
  obtain ⟨Y, hY⟩ : ∃ Y, Y = X.drewN nq := ⟨_, rfl⟩
  have hYb : Below X.heap.size X Y := by rw [hY]; exact below_drewN (Below.refl _ _) _
  rw [<- hY]
  clear hY
  have HYb := hideF (bel_then HXb.out hYb)
  have hYg := (hYb.block _ (lt_of_block HXg.out)).trans HXg.out
  have hYr := (hYb.block _ (lt_of_block HXr.out)).trans HXr.out
  have HYO := hideF (ownsRow_below HXO.out hYb)
  have HYD := hideF (HD.out.belowQ hYb)
  have HYg := hideF hYg
  have HYr := hideF hYr
  clear c0 c1 c2 c11 c12 c13 c14 cf g0 g1 g2 gf hdX HXb HXg HXr HXO HD
  obtain ⟨c0, c1, c2, c11, c12, c13, c14, cf, hdY⟩ := HYD.out.cells
  clear hYb hYg hYr
  go_wp2_with fail
  obtain ⟨Z, hZ⟩ : ∃ Z, Z = (Y.setCell ⟨d, 12, none⟩ (.int .i64 ((D.arr : Int) + 1))).drew := ⟨_, rfl⟩
  have hdg : d ≠ w.heap.size := by omega
  have hdr : d ≠ w1.heap.size := by omega
  have HZD : Hid (DevIn Z d L S E (.slice aw D.wait.length cw) { D with arr := D.arr + 1 }) := by
    rw [hZ]
    have := (HYD.out.setArr (D.arr + 1)).drewN 1
    rw [show ((D.arr + 1 : Nat) : Int) = (D.arr : Int) + 1 by omega] at this
    exact this
  have hZr : Z.heap[w1.heap.size]? = Y.heap[w1.heap.size]? := by rw [hZ]; exact heap_setCell_other Y ⟨d, 12, none⟩ w1.heap.size _ (by simpa using fun e => hdr e.symm)
  have hZg : Z.heap[w.heap.size]? = Y.heap[w.heap.size]? := by rw [hZ]; exact heap_setCell_other Y ⟨d, 12, none⟩ w.heap.size _ (by simpa using fun e => hdg e.symm)
  have HZr := hideF (hZr.trans HYr.out)
  have HZg := hideF (hZg.trans HYg.out)
  have HZO : Hid (Z.ownsRow W.heap.size 3 1 (.slice av x.vals.length cv) x.vals.length (x.vals.flatMap encI)) := by
    rw [hZ]
    exact own_drew (own_same HYO.out (fun g hg => heap_setCell_other Y ⟨d, 12, none⟩ g _ (by have := (HYO.out.lt g hg).1; simp; omega)))
  have HZF : Hid (FtT D.base (devT d L S E) w Z) := by
    rw [hZ]
    exact ((FtT.of_below (devT d L S E) HYb.out).setCell HYD.out.dev (devT_d _ _ _ _) HYD.out.lo.1 _ _).drewN 1
  have HDO2 : Hid (Calls Tryz.prog 80 #[.agg #[.string s, .int .i64 (x.fn : Nat), .int .i64 (x.tab : Nat), .int .i64 (x.frm : Nat), .int .i64 (x.cnt : Nat), .int .i64 (x.into : Nat), .int .i64 (x.to : Nat), .int .i64 (x.many : Nat), .slice av x.vals.length cv, .int .u8 (k : Nat)], .pointer (some ⟨d, 3, none⟩)] ((Y.setCell ⟨d, 12, none⟩ (.int .i64 ((D.arr : Int) + 1))).drew) fun e w' => ∃ v, e = .returned v /\ (v = .tuple #[.string r, .bool false] /\ DevIn w' d L S E (.slice aw D.wait.length cw) { D with arr := D.arr + 1, ent := f } /\ ∃ j, j < 4 /\ Chg1 (E j) Z w')) := by
    rw [<- hZ]
    exact (HDO.out x _ k _ Z HSH.out HZD.out HZO.out).mono fun e w' h => ⟨_, h.1, rfl, h.2.1, h.2.2⟩
  obtain ⟨r0, r1, r2, r3, r4, r5, r6, r7, r8, r9⟩ := cells10 HYr.out
  have hsY := HYb.out.size
  have HZs : Hid (Y.heap.size = Z.heap.size) := by rw [hZ]; show _ = _; simp
  clear hZ hZr hZg
  go_region_law (first
    | (refine step_call rfl 80 #[.tmp 45, .tmp 48] #[146, 151] rfl #[.agg #[.string s, .int .i64 (x.fn : Nat), .int .i64 (x.tab : Nat), .int .i64 (x.frm : Nat), .int .i64 (x.cnt : Nat), .int .i64 (x.into : Nat), .int .i64 (x.to : Nat), .int .i64 (x.many : Nat), .slice av x.vals.length cv, .int .u8 (k : Nat)], .pointer (some ⟨d, 3, none⟩)] (by simp [Act.eval]) (enter81 _ _ _) _ HDO2.out ?_; rintro vv w4 ⟨rfl, hd4, j4, hj4, hc4⟩))
  all_goals
    obtain ⟨ce, hce⟩ := (HZD.out.ent j4 hj4).block
    have hEj := (HH.out.ent j4 hj4).lt
    have HF4 := hideF (HZF.out.trans (FtT.chg hc4 hce (devT_E _ _ _ _ _ hj4) (HZD.out.lo.2.2.2 j4 hj4)))
    have hg4 := (hc4.block w.heap.size (lt_of_block HZg.out) (by omega)).trans HZg.out
    have HD4 := hideF hd4
    have hs4 : w.heap.size < w4.heap.size := lt_of_block hg4
    have HG4 := hideF hg4
    clear c0 c1 c2 c11 c12 c13 c14 cf r0 r1 r2 r3 r4 r5 r6 r7 r8 r9 hce hc4 hd4 HYb HYD HYg HYr HYO HZD HZr HZg HZO HZF HDO2 HZs
    obtain ⟨c0, c1, c2, c11, c12, c13, c14, cf, hd4⟩ := HD4.out.cells
    obtain ⟨g0, g1, g2, gf⟩ := cells3f hg4
    clear hg4
    go_wp2_with fail
    go_quiet (fail)
    obtain ⟨V, hV⟩ : ∃ V, V = w4.drewN nq := ⟨_, rfl⟩
    have hVb : Below w4.heap.size w4 V := by rw [hV]; exact below_drewN (Below.refl _ _) _
    rw [<- hV]
    clear hV
    have HDV := hideF (HD4.out.belowQ hVb)
    have hgV := (hVb.block _ hs4).trans HG4.out
    have HFV := hideF (HF4.out.then_below hVb)
    have HGV := hideF hgV
    have hsV := lt_of_block hgV
    clear c0 c1 c2 c11 c12 c13 c14 cf g0 g1 g2 gf hVb HD4 HG4 HF4 hd4
    obtain ⟨c0, c1, c2, c11, c12, c13, c14, cf, hdV⟩ := HDV.out.cells
    obtain ⟨g0, g1, g2, gf⟩ := cells3f hgV
    clear hgV
    go_wp2_with fail
    obtain ⟨U, hU⟩ : ∃ U, U = V.setCell ⟨w.heap.size, 2, none⟩ (.string r) := ⟨_, rfl⟩
    have HDU : Hid (DevIn U d L S E (.slice aw D.wait.length cw) { D with arr := D.arr + 1, ent := f }) := by rw [hU]; exact HDV.out.keep ((FtT.refl (B := 0) (fun _ t => t == 94) V).setCell HGV.out rfl (Nat.zero_le _) _ _) (fun _ => rfl) (fun _ => rfl) (fun _ => rfl) (fun _ => rfl) (fun _ => rfl)
    have HFU : Hid (FtT D.base (devT d L S E) w U) := by rw [hU]; exact HFV.out.setNew _ _ (Nat.le_refl _) _
    have hgU : U.heap[w.heap.size]? = some (.cells #[.int .i64 (m : Nat), .int .i64 (D.unit : Nat), .string r] 94 (0, 0)) := by rw [hU]; exact heap_setCell_same V _ 2 _ 94 (.string r) HGV.out
    rw [<- hU]
    clear hU c0 c1 c2 c11 c12 c13 c14 cf g0 g1 g2 gf HDV HGV HFV hsV hdV
    obtain ⟨c0, c1, c2, c11, c12, c13, c14, cf, hdU⟩ := HDU.out.cells
    obtain ⟨g0, g1, g2, gf⟩ := cells3f hgU
    have hsU := lt_of_block hgU
    clear hgU
    have hiI : (i : Int) < (D.nl : Int) := by omega
    have HFR : Hid (Calls Tryz.prog 82 #[.pointer (some ⟨L, i * 3, none⟩), .agg #[.int .i64 (m : Nat), .int .i64 (D.unit : Nat), .string r]] U.drew fun e w' => ∃ v, e = .returned v /\ (v = .string (streamB m D.unit r) /\ Below U.drew.heap.size U.drew w')) := (framed_stream L i D.nl m D.unit r D.ln U.drew (HDU.out.drewN 1).lines hi hk hm hun hr).mono fun e w' h => ⟨_, h.1, rfl, h.2⟩
    go_region_law (first
      | (refine step_call rfl 82 #[.tmp 76, .tmp 77] #[116, 94] rfl #[.pointer (some ⟨L, i * 3, none⟩), .agg #[.int .i64 (m : Nat), .int .i64 (D.unit : Nat), .string r]] (by simp [Act.eval, Act.put]) (enter83 _ _ _) _ HFR.out ?_; rintro vv w5 ⟨rfl, hb5⟩; have hd5 := (HDU.out.drewN 1).belowQ hb5)
      | (refine step_call rfl 81 #[.tmp 69, .tmp 70, .tmp 78] #[49, 3, 9] rfl #[.pointer (some ⟨d, 0, none⟩), .int .i64 (i : Nat), .string (streamB m D.unit r)] (by simp [Act.eval]) (enter82 _ _ _ _) _ (dansw_now d L S i E _ _ (streamB m D.unit r) _ hd5 hu) ?_; rintro vv w6 ⟨hown6, hb6⟩))
    all_goals
      have hb6' := bel_then (below_then_drew1 hb5) hb6
      have hs5 := (below_then_drew1 hb5).size
      have HD6 := hideF (HDU.out.belowQ hb6')
      have HF6 := hideF (HFU.out.then_below hb6')
      obtain ⟨a6, k6, rfl, _⟩ := own_view hown6
      have HO6 := hideF (own_base (B := w.heap.size) hown6 (by omega))
      clear c0 c1 c2 c11 c12 c13 c14 cf g0 g1 g2 gf hown6 hb5 hb6 hd5 hb6' HFR
      obtain ⟨c0, c1, c2, c11, c12, c13, c14, cf, hd6⟩ := HD6.out.cells
      have q1 : decide ((D.batch : Int) <= (D.wait.length : Int)) = false := by simp; omega
      have q2 : decide ((D.batch : Int) <= (D.uns : Int)) = false := by simp; omega
      go_wp2_with fail
      go_quiet (fail)
      go_wp2
      go_ret
      exact ⟨_, rfl, own_same HO6.out (fun _ _ => rfl), HD6.out.drewN _, HF6.out.drewN _⟩
end Go.Proofs.YtcpldcojckhapaaGreat

set_option maxRecDepth 100000
namespace Go.Proofs.YtcpldcojckhapaaGreat
open Go.RowKit
theorem wt_dev (d L S : Nat) (E : Nat -> Nat) : ∀ g t, devT d L S E g t = false -> wtT d g t = false := fun g t h => by
  simp only [devT, wtT, Bool.or_eq_false_iff] at h ⊢
  exact ⟨h.1.1.1.1, h.2⟩
theorem dansw_step (d L S i : Nat) (E : Nat -> Nat) (wv : Value) (D : Dev) (s : ByteArray) (w : World) (h : DevIn w d L S E wv D) (hu : 0 < D.uns) (hl : D.wait.length <= 1000) (hx : ∀ y ∈ D.wait, y.1 < (D.arr : Int)) :
    Calls Tryz.prog 81 #[.pointer (some ⟨d, 0, none⟩), .int .i64 (i : Nat), .string s] w fun e w' => ∃ v, e = .returned v /\ (v = .slice none 0 0 /\ ∃ v', DevIn w' d L S E v' { D with wait := D.wait ++ [((D.arr : Int), ((i : Nat) : Int), s)] } /\ FtT D.base (wtT d) w w') :=
  (dansw_wait d L S i E wv D s w h hu hl hx).mono fun _ _ h => by obtain ⟨v', h1, h2, h3⟩ := h; exact ⟨_, h1, rfl, v', h2, h3⟩
set_option maxRecDepth 100000 in
set_option maxHeartbeats 2000000 in
theorem take_waitF (d L S i m : Nat) (E : Nat -> Nat) (wv : Value) (D : Dev) (s r : ByteArray) (f : Nat -> Nat -> Int) (w : World) (h : DevIn w d L S E wv D) (hi : i < D.nl) (hk : (D.ln i).kind = 0) (hm : m < 65536) (hun : D.unit < 256) (ha : D.arr <= 1000000000) (hr : r.size <= 253) (hdo : DoIs d L S E wv D s r false f) (hu : 0 < D.uns) (hwl : D.wait.length + 1 < D.batch) (hub : D.uns < D.batch) (hx : ∀ y ∈ D.wait, y.1 < ((D.arr + 1 : Nat) : Int)) (hw1 : D.wait.length <= 1000) (_hbb : D.batch <= 1000) :
    Calls Tryz.prog 57 #[.pointer (some ⟨d, 0, none⟩), .int .i64 (i : Nat), .agg #[.int .i64 (m : Nat), .int .i64 (D.unit : Nat), .string s]] w fun e w' => ∃ v', e = .returned (.slice none 0 0) /\ DevIn w' d L S E v' { D with arr := D.arr + 1, ent := f, wait := D.wait ++ [(((D.arr + 1 : Nat) : Int), ((i : Nat) : Int), streamB m D.unit r)] } /\ FtT D.base (devT d L S E) w w' := by
  obtain ⟨aw, cw, rfl, _⟩ := own_view h.wait
  obtain ⟨c0, c1, c2, c11, c12, c13, c14, cf, hdl⟩ := h.cells
  obtain ⟨W, hW⟩ : ∃ W, W = w.alloc (.cells #[.int .i64 (m : Nat), .int .i64 (D.unit : Nat), .string s] 94) := ⟨_, rfl⟩
  have hWb : Below w.heap.size w W := by rw [hW]; exact bel_alloc (Below.refl _ _) _
  have hWg : W.heap[w.heap.size]? = some (.cells #[.int .i64 (m : Nat), .int .i64 (D.unit : Nat), .string s] 94 (0, 0)) := by rw [hW]; exact heap_alloc_new w _
  have hWl : W.heap.size = w.heap.size + 1 := by rw [hW]; simp
  have HH := hideF h
  have HWb := hideF hWb
  have HWg := hideF hWg
  have HDO := hideF hdo
  have HXX := hideF hx
  clear h hWb hWg hdo hx
  go_enter Tryz.func57, Tryz.ntmps57
  go_wp2_with fail
  rw [<- hW]
  clear hW
  refine (newRequest_any s W).mono ?_
  rintro e w1 ⟨x, v, k, rfl, hown, hsh, hlen, hb⟩
  unfold reqV
  obtain ⟨av, cv, rfl, _⟩ := own_view hown
  obtain ⟨X, hX⟩ : ∃ X, X = w1.alloc (.cells #[.string s, .int .i64 (x.fn : Nat), .int .i64 (x.tab : Nat), .int .i64 (x.frm : Nat), .int .i64 (x.cnt : Nat), .int .i64 (x.into : Nat), .int .i64 (x.to : Nat), .int .i64 (x.many : Nat), .slice av x.vals.length cv, .int .u8 (k : Nat)] 146) := ⟨_, rfl⟩
  have hX1 : Below w1.heap.size w1 X := by rw [hX]; exact bel_alloc (Below.refl _ _) _
  have hXb : Below w.heap.size w X := bel_then (bel_then HWb.out hb) hX1
  have hXg : X.heap[w.heap.size]? = some (.cells #[.int .i64 (m : Nat), .int .i64 (D.unit : Nat), .string s] 94 (0, 0)) := (hX1.block _ (by have := hb.size; omega)).trans ((hb.block _ (by omega)).trans HWg.out)
  have hXr : X.heap[w1.heap.size]? = some (.cells #[.string s, .int .i64 (x.fn : Nat), .int .i64 (x.tab : Nat), .int .i64 (x.frm : Nat), .int .i64 (x.cnt : Nat), .int .i64 (x.into : Nat), .int .i64 (x.to : Nat), .int .i64 (x.many : Nat), .slice av x.vals.length cv, .int .u8 (k : Nat)] 146 (0, 0)) := by rw [hX]; exact heap_alloc_new w1 _
  have HXO := hideF (ownsRow_below hown hX1)
  have HXb := hideF hXb
  have HXg := hideF hXg
  have HXr := hideF hXr
  have hsz1 : w.heap.size < w1.heap.size := by have := hb.size; omega
  have HSH := hideF hsh
  have HD := hideF (HH.out.belowQ hXb)
  clear c0 c1 c2 c11 c12 c13 c14 cf hown hsh hb hX1
  obtain ⟨c0, c1, c2, c11, c12, c13, c14, cf, hdX⟩ := HD.out.cells
  obtain ⟨g0, g1, g2, gf⟩ := cells3f hXg
  clear hXb hXg hXr
  go_wp2_with fail
  rw [<- hX]
  clear hX
  go_quiet (fail)
  obtain ⟨Y, hY⟩ : ∃ Y, Y = X.drewN nq := ⟨_, rfl⟩
  have hYb : Below X.heap.size X Y := by rw [hY]; exact below_drewN (Below.refl _ _) _
  rw [<- hY]
  clear hY
  have HYb := hideF (bel_then HXb.out hYb)
  have hYg := (hYb.block _ (lt_of_block HXg.out)).trans HXg.out
  have hYr := (hYb.block _ (lt_of_block HXr.out)).trans HXr.out
  have HYO := hideF (ownsRow_below HXO.out hYb)
  have HYD := hideF (HD.out.belowQ hYb)
  have HYg := hideF hYg
  have HYr := hideF hYr
  clear c0 c1 c2 c11 c12 c13 c14 cf g0 g1 g2 gf hdX HXb HXg HXr HXO HD
  obtain ⟨c0, c1, c2, c11, c12, c13, c14, cf, hdY⟩ := HYD.out.cells
  clear hYb hYg hYr
  go_wp2_with fail
  obtain ⟨Z, hZ⟩ : ∃ Z, Z = (Y.setCell ⟨d, 12, none⟩ (.int .i64 ((D.arr : Int) + 1))).drew := ⟨_, rfl⟩
  have hdg : d ≠ w.heap.size := by omega
  have hdr : d ≠ w1.heap.size := by omega
  have HZD : Hid (DevIn Z d L S E (.slice aw D.wait.length cw) { D with arr := D.arr + 1 }) := by
    rw [hZ]
    have := (HYD.out.setArr (D.arr + 1)).drewN 1
    rw [show ((D.arr + 1 : Nat) : Int) = (D.arr : Int) + 1 by omega] at this
    exact this
  have hZr : Z.heap[w1.heap.size]? = Y.heap[w1.heap.size]? := by rw [hZ]; exact heap_setCell_other Y ⟨d, 12, none⟩ w1.heap.size _ (by simpa using fun e => hdr e.symm)
  have hZg : Z.heap[w.heap.size]? = Y.heap[w.heap.size]? := by rw [hZ]; exact heap_setCell_other Y ⟨d, 12, none⟩ w.heap.size _ (by simpa using fun e => hdg e.symm)
  have HZr := hideF (hZr.trans HYr.out)
  have HZg := hideF (hZg.trans HYg.out)
  have HZO : Hid (Z.ownsRow W.heap.size 3 1 (.slice av x.vals.length cv) x.vals.length (x.vals.flatMap encI)) := by
    rw [hZ]
    exact own_drew (own_same HYO.out (fun g hg => heap_setCell_other Y ⟨d, 12, none⟩ g _ (by have := (HYO.out.lt g hg).1; simp; omega)))
  have HZF : Hid (FtT D.base (devT d L S E) w Z) := by
    rw [hZ]
    exact ((FtT.of_below (devT d L S E) HYb.out).setCell HYD.out.dev (devT_d _ _ _ _) HYD.out.lo.1 _ _).drewN 1
  have HDO2 : Hid (Calls Tryz.prog 80 #[.agg #[.string s, .int .i64 (x.fn : Nat), .int .i64 (x.tab : Nat), .int .i64 (x.frm : Nat), .int .i64 (x.cnt : Nat), .int .i64 (x.into : Nat), .int .i64 (x.to : Nat), .int .i64 (x.many : Nat), .slice av x.vals.length cv, .int .u8 (k : Nat)], .pointer (some ⟨d, 3, none⟩)] ((Y.setCell ⟨d, 12, none⟩ (.int .i64 ((D.arr : Int) + 1))).drew) fun e w' => ∃ v, e = .returned v /\ (v = .tuple #[.string r, .bool false] /\ DevIn w' d L S E (.slice aw D.wait.length cw) { D with arr := D.arr + 1, ent := f } /\ ∃ j, j < 4 /\ Chg1 (E j) Z w')) := by
    rw [<- hZ]
    exact (HDO.out x _ k _ Z HSH.out HZD.out HZO.out).mono fun e w' h => ⟨_, h.1, rfl, h.2.1, h.2.2⟩
  obtain ⟨r0, r1, r2, r3, r4, r5, r6, r7, r8, r9⟩ := cells10 HYr.out
  have hsY := HYb.out.size
  have HZs : Hid (Y.heap.size = Z.heap.size) := by rw [hZ]; show _ = _; simp
  clear hZ hZr hZg
  go_region_law (first
    | (refine step_call rfl 80 #[.tmp 45, .tmp 48] #[146, 151] rfl #[.agg #[.string s, .int .i64 (x.fn : Nat), .int .i64 (x.tab : Nat), .int .i64 (x.frm : Nat), .int .i64 (x.cnt : Nat), .int .i64 (x.into : Nat), .int .i64 (x.to : Nat), .int .i64 (x.many : Nat), .slice av x.vals.length cv, .int .u8 (k : Nat)], .pointer (some ⟨d, 3, none⟩)] (by simp [Act.eval]) (enter81 _ _ _) _ HDO2.out ?_; rintro vv w4 ⟨rfl, hd4, j4, hj4, hc4⟩))
  all_goals
    obtain ⟨ce, hce⟩ := (HZD.out.ent j4 hj4).block
    have hEj := (HH.out.ent j4 hj4).lt
    have HF4 := hideF (HZF.out.trans (FtT.chg hc4 hce (devT_E _ _ _ _ _ hj4) (HZD.out.lo.2.2.2 j4 hj4)))
    have hg4 := (hc4.block w.heap.size (lt_of_block HZg.out) (by omega)).trans HZg.out
    have HD4 := hideF hd4
    have hs4 : w.heap.size < w4.heap.size := lt_of_block hg4
    have HG4 := hideF hg4
    clear c0 c1 c2 c11 c12 c13 c14 cf r0 r1 r2 r3 r4 r5 r6 r7 r8 r9 hce hc4 hd4 HYb HYD HYg HYr HYO HZD HZr HZg HZO HZF HDO2 HZs
    obtain ⟨c0, c1, c2, c11, c12, c13, c14, cf, hd4⟩ := HD4.out.cells
    obtain ⟨g0, g1, g2, gf⟩ := cells3f hg4
    clear hg4
    go_wp2_with fail
    go_quiet (fail)
    obtain ⟨V, hV⟩ : ∃ V, V = w4.drewN nq := ⟨_, rfl⟩
    have hVb : Below w4.heap.size w4 V := by rw [hV]; exact below_drewN (Below.refl _ _) _
    rw [<- hV]
    clear hV
    have HDV := hideF (HD4.out.belowQ hVb)
    have hgV := (hVb.block _ hs4).trans HG4.out
    have HFV := hideF (HF4.out.then_below hVb)
    have HGV := hideF hgV
    have hsV := lt_of_block hgV
    clear c0 c1 c2 c11 c12 c13 c14 cf g0 g1 g2 gf hVb HD4 HG4 HF4 hd4
    obtain ⟨c0, c1, c2, c11, c12, c13, c14, cf, hdV⟩ := HDV.out.cells
    obtain ⟨g0, g1, g2, gf⟩ := cells3f hgV
    clear hgV
    go_wp2_with fail
    obtain ⟨U, hU⟩ : ∃ U, U = V.setCell ⟨w.heap.size, 2, none⟩ (.string r) := ⟨_, rfl⟩
    have HDU : Hid (DevIn U d L S E (.slice aw D.wait.length cw) { D with arr := D.arr + 1, ent := f }) := by rw [hU]; exact HDV.out.keep ((FtT.refl (B := 0) (fun _ t => t == 94) V).setCell HGV.out rfl (Nat.zero_le _) _ _) (fun _ => rfl) (fun _ => rfl) (fun _ => rfl) (fun _ => rfl) (fun _ => rfl)
    have HFU : Hid (FtT D.base (devT d L S E) w U) := by rw [hU]; exact HFV.out.setNew _ _ (Nat.le_refl _) _
    have hgU : U.heap[w.heap.size]? = some (.cells #[.int .i64 (m : Nat), .int .i64 (D.unit : Nat), .string r] 94 (0, 0)) := by rw [hU]; exact heap_setCell_same V _ 2 _ 94 (.string r) HGV.out
    rw [<- hU]
    clear hU c0 c1 c2 c11 c12 c13 c14 cf g0 g1 g2 gf HDV HGV HFV hsV hdV
    obtain ⟨c0, c1, c2, c11, c12, c13, c14, cf, hdU⟩ := HDU.out.cells
    obtain ⟨g0, g1, g2, gf⟩ := cells3f hgU
    have hsU := lt_of_block hgU
    clear hgU
    have hiI : (i : Int) < (D.nl : Int) := by omega
    have HFR : Hid (Calls Tryz.prog 82 #[.pointer (some ⟨L, i * 3, none⟩), .agg #[.int .i64 (m : Nat), .int .i64 (D.unit : Nat), .string r]] U.drew fun e w' => ∃ v, e = .returned v /\ (v = .string (streamB m D.unit r) /\ Below U.drew.heap.size U.drew w')) := (framed_stream L i D.nl m D.unit r D.ln U.drew (HDU.out.drewN 1).lines hi hk hm hun hr).mono fun e w' h => ⟨_, h.1, rfl, h.2⟩
    go_region_law (first
      | (refine step_call rfl 82 #[.tmp 76, .tmp 77] #[116, 94] rfl #[.pointer (some ⟨L, i * 3, none⟩), .agg #[.int .i64 (m : Nat), .int .i64 (D.unit : Nat), .string r]] (by simp [Act.eval, Act.put]) (enter83 _ _ _) _ HFR.out ?_; rintro vv w5 ⟨rfl, hb5⟩; have hd5 := (HDU.out.drewN 1).belowQ hb5)
      | (refine step_call rfl 81 #[.tmp 69, .tmp 70, .tmp 78] #[49, 3, 9] rfl #[.pointer (some ⟨d, 0, none⟩), .int .i64 (i : Nat), .string (streamB m D.unit r)] (by simp [Act.eval]) (enter82 _ _ _ _) _ (dansw_step d L S i E _ _ (streamB m D.unit r) _ hd5 (by first | exact Nat.succ_pos _ | exact hu) hw1 HXX.out) ?_; rintro vv w6 ⟨rfl, v6, hd6, hf6⟩))
    all_goals
      have HF6 := hideF ((HFU.out.then_below (below_then_drew1 hb5)).trans (hf6.mono (wt_dev _ _ _ _)))
      have HD6 := hideF hd6
      obtain ⟨a6, k6, rfl, _⟩ := own_view hd6.wait
      clear c0 c1 c2 c11 c12 c13 c14 cf g0 g1 g2 gf hb5 hd6 hf6 hd5 HFR
      obtain ⟨c0, c1, c2, c11, c12, c13, c14, cf, hd6⟩ := HD6.out.cells
      simp only [List.length_append, List.length_singleton] at c14
      have q1 : decide ((D.batch : Int) <= ((D.wait.length + 1 : Nat) : Int)) = false := by simp; omega
      have q2 : decide ((D.batch : Int) <= (D.uns : Int)) = false := by simp; omega
      have q3 : decide ((D.batch : Int) <= (D.wait.length : Int) + 1) = false := by simp; omega
      go_wp2_with fail
      go_quiet (fail)
      go_wp2
      go_ret
      exact ⟨_, rfl, HD6.out.drewN _, HF6.out.drewN _⟩
end Go.Proofs.YtcpldcojckhapaaGreat

set_option maxRecDepth 100000
namespace Go.Proofs.YtcpldcojckhapaaGreat
open Go.RowKit
set_option maxRecDepth 100000 in
set_option maxHeartbeats 2000000 in
theorem take_waitT (d L S i m : Nat) (E : Nat -> Nat) (wv : Value) (D : Dev) (s r : ByteArray) (f : Nat -> Nat -> Int) (w : World) (h : DevIn w d L S E wv D) (hi : i < D.nl) (hk : (D.ln i).kind = 0) (hm : m < 65536) (hun : D.unit < 256) (ha : D.arr <= 1000000000) (hr : r.size <= 253) (hdo : DoIs d L S E wv D s r true f) (hwl : D.wait.length + 1 < D.batch) (hub : D.uns + 1 < D.batch) (hx : ∀ y ∈ D.wait, y.1 < ((D.arr + 1 : Nat) : Int)) (hw1 : D.wait.length <= 1000) (hbb : D.batch <= 1000) :
    Calls Tryz.prog 57 #[.pointer (some ⟨d, 0, none⟩), .int .i64 (i : Nat), .agg #[.int .i64 (m : Nat), .int .i64 (D.unit : Nat), .string s]] w fun e w' => ∃ v', e = .returned (.slice none 0 0) /\ DevIn w' d L S E v' { D with arr := D.arr + 1, ent := f, uns := D.uns + 1, wait := D.wait ++ [(((D.arr + 1 : Nat) : Int), ((i : Nat) : Int), streamB m D.unit r)] } /\ FtT D.base (devT d L S E) w w' := by
  obtain ⟨aw, cw, rfl, _⟩ := own_view h.wait
  obtain ⟨c0, c1, c2, c11, c12, c13, c14, cf, hdl⟩ := h.cells
  obtain ⟨W, hW⟩ : ∃ W, W = w.alloc (.cells #[.int .i64 (m : Nat), .int .i64 (D.unit : Nat), .string s] 94) := ⟨_, rfl⟩
  have hWb : Below w.heap.size w W := by rw [hW]; exact bel_alloc (Below.refl _ _) _
  have hWg : W.heap[w.heap.size]? = some (.cells #[.int .i64 (m : Nat), .int .i64 (D.unit : Nat), .string s] 94 (0, 0)) := by rw [hW]; exact heap_alloc_new w _
  have hWl : W.heap.size = w.heap.size + 1 := by rw [hW]; simp
  have HH := hideF h
  have HWb := hideF hWb
  have HWg := hideF hWg
  have HDO := hideF hdo
  have HXX := hideF hx
  clear h hWb hWg hdo hx
  go_enter Tryz.func57, Tryz.ntmps57
  go_wp2_with fail
  rw [<- hW]
  clear hW
  refine (newRequest_any s W).mono ?_
  rintro e w1 ⟨x, v, k, rfl, hown, hsh, hlen, hb⟩
  unfold reqV
  obtain ⟨av, cv, rfl, _⟩ := own_view hown
  obtain ⟨X, hX⟩ : ∃ X, X = w1.alloc (.cells #[.string s, .int .i64 (x.fn : Nat), .int .i64 (x.tab : Nat), .int .i64 (x.frm : Nat), .int .i64 (x.cnt : Nat), .int .i64 (x.into : Nat), .int .i64 (x.to : Nat), .int .i64 (x.many : Nat), .slice av x.vals.length cv, .int .u8 (k : Nat)] 146) := ⟨_, rfl⟩
  have hX1 : Below w1.heap.size w1 X := by rw [hX]; exact bel_alloc (Below.refl _ _) _
  have hXb : Below w.heap.size w X := bel_then (bel_then HWb.out hb) hX1
  have hXg : X.heap[w.heap.size]? = some (.cells #[.int .i64 (m : Nat), .int .i64 (D.unit : Nat), .string s] 94 (0, 0)) := (hX1.block _ (by have := hb.size; omega)).trans ((hb.block _ (by omega)).trans HWg.out)
  have hXr : X.heap[w1.heap.size]? = some (.cells #[.string s, .int .i64 (x.fn : Nat), .int .i64 (x.tab : Nat), .int .i64 (x.frm : Nat), .int .i64 (x.cnt : Nat), .int .i64 (x.into : Nat), .int .i64 (x.to : Nat), .int .i64 (x.many : Nat), .slice av x.vals.length cv, .int .u8 (k : Nat)] 146 (0, 0)) := by rw [hX]; exact heap_alloc_new w1 _
  have HXO := hideF (ownsRow_below hown hX1)
  have HXb := hideF hXb
  have HXg := hideF hXg
  have HXr := hideF hXr
  have hsz1 : w.heap.size < w1.heap.size := by have := hb.size; omega
  have HSH := hideF hsh
  have HD := hideF (HH.out.belowQ hXb)
  clear c0 c1 c2 c11 c12 c13 c14 cf hown hsh hb hX1
  obtain ⟨c0, c1, c2, c11, c12, c13, c14, cf, hdX⟩ := HD.out.cells
  obtain ⟨g0, g1, g2, gf⟩ := cells3f hXg
  clear hXb hXg hXr
  go_wp2_with fail
  rw [<- hX]
  clear hX
  go_quiet (fail)
  obtain ⟨Y, hY⟩ : ∃ Y, Y = X.drewN nq := ⟨_, rfl⟩
  have hYb : Below X.heap.size X Y := by rw [hY]; exact below_drewN (Below.refl _ _) _
  rw [<- hY]
  clear hY
  have HYb := hideF (bel_then HXb.out hYb)
  have hYg := (hYb.block _ (lt_of_block HXg.out)).trans HXg.out
  have hYr := (hYb.block _ (lt_of_block HXr.out)).trans HXr.out
  have HYO := hideF (ownsRow_below HXO.out hYb)
  have HYD := hideF (HD.out.belowQ hYb)
  have HYg := hideF hYg
  have HYr := hideF hYr
  clear c0 c1 c2 c11 c12 c13 c14 cf g0 g1 g2 gf hdX HXb HXg HXr HXO HD
  obtain ⟨c0, c1, c2, c11, c12, c13, c14, cf, hdY⟩ := HYD.out.cells
  clear hYb hYg hYr
  go_wp2_with fail
  obtain ⟨Z, hZ⟩ : ∃ Z, Z = (Y.setCell ⟨d, 12, none⟩ (.int .i64 ((D.arr : Int) + 1))).drew := ⟨_, rfl⟩
  have hdg : d ≠ w.heap.size := by omega
  have hdr : d ≠ w1.heap.size := by omega
  have HZD : Hid (DevIn Z d L S E (.slice aw D.wait.length cw) { D with arr := D.arr + 1 }) := by
    rw [hZ]
    have := (HYD.out.setArr (D.arr + 1)).drewN 1
    rw [show ((D.arr + 1 : Nat) : Int) = (D.arr : Int) + 1 by omega] at this
    exact this
  have hZr : Z.heap[w1.heap.size]? = Y.heap[w1.heap.size]? := by rw [hZ]; exact heap_setCell_other Y ⟨d, 12, none⟩ w1.heap.size _ (by simpa using fun e => hdr e.symm)
  have hZg : Z.heap[w.heap.size]? = Y.heap[w.heap.size]? := by rw [hZ]; exact heap_setCell_other Y ⟨d, 12, none⟩ w.heap.size _ (by simpa using fun e => hdg e.symm)
  have HZr := hideF (hZr.trans HYr.out)
  have HZg := hideF (hZg.trans HYg.out)
  have HZO : Hid (Z.ownsRow W.heap.size 3 1 (.slice av x.vals.length cv) x.vals.length (x.vals.flatMap encI)) := by
    rw [hZ]
    exact own_drew (own_same HYO.out (fun g hg => heap_setCell_other Y ⟨d, 12, none⟩ g _ (by have := (HYO.out.lt g hg).1; simp; omega)))
  have HZF : Hid (FtT D.base (devT d L S E) w Z) := by
    rw [hZ]
    exact ((FtT.of_below (devT d L S E) HYb.out).setCell HYD.out.dev (devT_d _ _ _ _) HYD.out.lo.1 _ _).drewN 1
  have HDO2 : Hid (Calls Tryz.prog 80 #[.agg #[.string s, .int .i64 (x.fn : Nat), .int .i64 (x.tab : Nat), .int .i64 (x.frm : Nat), .int .i64 (x.cnt : Nat), .int .i64 (x.into : Nat), .int .i64 (x.to : Nat), .int .i64 (x.many : Nat), .slice av x.vals.length cv, .int .u8 (k : Nat)], .pointer (some ⟨d, 3, none⟩)] ((Y.setCell ⟨d, 12, none⟩ (.int .i64 ((D.arr : Int) + 1))).drew) fun e w' => ∃ v, e = .returned v /\ (v = .tuple #[.string r, .bool true] /\ DevIn w' d L S E (.slice aw D.wait.length cw) { D with arr := D.arr + 1, ent := f } /\ ∃ j, j < 4 /\ Chg1 (E j) Z w')) := by
    rw [<- hZ]
    exact (HDO.out x _ k _ Z HSH.out HZD.out HZO.out).mono fun e w' h => ⟨_, h.1, rfl, h.2.1, h.2.2⟩
  obtain ⟨r0, r1, r2, r3, r4, r5, r6, r7, r8, r9⟩ := cells10 HYr.out
  have hsY := HYb.out.size
  have HZs : Hid (Y.heap.size = Z.heap.size) := by rw [hZ]; show _ = _; simp
  clear hZ hZr hZg
  go_region_law (first
    | (refine step_call rfl 80 #[.tmp 45, .tmp 48] #[146, 151] rfl #[.agg #[.string s, .int .i64 (x.fn : Nat), .int .i64 (x.tab : Nat), .int .i64 (x.frm : Nat), .int .i64 (x.cnt : Nat), .int .i64 (x.into : Nat), .int .i64 (x.to : Nat), .int .i64 (x.many : Nat), .slice av x.vals.length cv, .int .u8 (k : Nat)], .pointer (some ⟨d, 3, none⟩)] (by simp [Act.eval]) (enter81 _ _ _) _ HDO2.out ?_; rintro vv w4 ⟨rfl, hd4, j4, hj4, hc4⟩))
  all_goals
    obtain ⟨ce, hce⟩ := (HZD.out.ent j4 hj4).block
    have hEj := (HH.out.ent j4 hj4).lt
    have HF4 := hideF (HZF.out.trans (FtT.chg hc4 hce (devT_E _ _ _ _ _ hj4) (HZD.out.lo.2.2.2 j4 hj4)))
    have hg4 := (hc4.block w.heap.size (lt_of_block HZg.out) (by omega)).trans HZg.out
    have HD4 := hideF hd4
    have hs4 : w.heap.size < w4.heap.size := lt_of_block hg4
    have HG4 := hideF hg4
    clear c0 c1 c2 c11 c12 c13 c14 cf r0 r1 r2 r3 r4 r5 r6 r7 r8 r9 hce hc4 hd4 HYb HYD HYg HYr HYO HZD HZr HZg HZO HZF HDO2 HZs
    obtain ⟨c0, c1, c2, c11, c12, c13, c14, cf, hd4⟩ := HD4.out.cells
    obtain ⟨g0, g1, g2, gf⟩ := cells3f hg4
    clear hg4
    go_wp2_with fail
    obtain ⟨w8, hw8⟩ : ∃ w8, w8 = w4.setCell ⟨d, 13, none⟩ (.int .i64 ((D.uns : Int) + 1)) := ⟨_, rfl⟩
    have HD8 : Hid (DevIn w8 d L S E (.slice aw D.wait.length cw) { D with arr := D.arr + 1, ent := f, uns := D.uns + 1 }) := by
      rw [hw8]
      have := HD4.out.setUns (D.uns + 1)
      rw [show ((D.uns + 1 : Nat) : Int) = (D.uns : Int) + 1 by omega] at this
      exact this
    have HF8 : Hid (FtT D.base (devT d L S E) w w8) := by rw [hw8]; exact HF4.out.setCell HD4.out.dev (devT_d _ _ _ _) HD4.out.lo.1 _ _
    have HG8 : Hid (w8.heap[w.heap.size]? = _) := (by rw [hw8]; exact heap_setCell_other w4 ⟨d, 13, none⟩ w.heap.size _ (by simpa using fun e => hdg e.symm) : w8.heap[w.heap.size]? = w4.heap[w.heap.size]?).trans HG4.out
    rw [<- hw8]
    have hs8 : w.heap.size < w8.heap.size := lt_of_block HG8.out
    clear hw8 c0 c1 c2 c11 c12 c13 c14 cf g0 g1 g2 gf HD4 HF4 HG4 hd4
    obtain ⟨c0, c1, c2, c11, c12, c13, c14, cf, hd4⟩ := HD8.out.cells
    obtain ⟨g0, g1, g2, gf⟩ := cells3f HG8.out
    go_quiet (fail)
    obtain ⟨V, hV⟩ : ∃ V, V = w8.drewN nq := ⟨_, rfl⟩
    have hVb : Below w8.heap.size w8 V := by rw [hV]; exact below_drewN (Below.refl _ _) _
    rw [<- hV]
    clear hV
    have HDV := hideF (HD8.out.belowQ hVb)
    have hgV := (hVb.block _ hs8).trans HG8.out
    have HFV := hideF (HF8.out.then_below hVb)
    have HGV := hideF hgV
    have hsV := lt_of_block hgV
    clear c0 c1 c2 c11 c12 c13 c14 cf g0 g1 g2 gf hVb HD8 HG8 HF8 hd4
    obtain ⟨c0, c1, c2, c11, c12, c13, c14, cf, hdV⟩ := HDV.out.cells
    obtain ⟨g0, g1, g2, gf⟩ := cells3f hgV
    clear hgV
    go_wp2_with fail
    obtain ⟨U, hU⟩ : ∃ U, U = V.setCell ⟨w.heap.size, 2, none⟩ (.string r) := ⟨_, rfl⟩
    have HDU : Hid (DevIn U d L S E (.slice aw D.wait.length cw) { D with arr := D.arr + 1, ent := f, uns := D.uns + 1 }) := by rw [hU]; exact HDV.out.keep ((FtT.refl (B := 0) (fun _ t => t == 94) V).setCell HGV.out rfl (Nat.zero_le _) _ _) (fun _ => rfl) (fun _ => rfl) (fun _ => rfl) (fun _ => rfl) (fun _ => rfl)
    have HFU : Hid (FtT D.base (devT d L S E) w U) := by rw [hU]; exact HFV.out.setNew _ _ (Nat.le_refl _) _
    have hgU : U.heap[w.heap.size]? = some (.cells #[.int .i64 (m : Nat), .int .i64 (D.unit : Nat), .string r] 94 (0, 0)) := by rw [hU]; exact heap_setCell_same V _ 2 _ 94 (.string r) HGV.out
    rw [<- hU]
    clear hU c0 c1 c2 c11 c12 c13 c14 cf g0 g1 g2 gf HDV HGV HFV hsV hdV
    obtain ⟨c0, c1, c2, c11, c12, c13, c14, cf, hdU⟩ := HDU.out.cells
    obtain ⟨g0, g1, g2, gf⟩ := cells3f hgU
    have hsU := lt_of_block hgU
    clear hgU
    have hiI : (i : Int) < (D.nl : Int) := by omega
    have HFR : Hid (Calls Tryz.prog 82 #[.pointer (some ⟨L, i * 3, none⟩), .agg #[.int .i64 (m : Nat), .int .i64 (D.unit : Nat), .string r]] U.drew fun e w' => ∃ v, e = .returned v /\ (v = .string (streamB m D.unit r) /\ Below U.drew.heap.size U.drew w')) := (framed_stream L i D.nl m D.unit r D.ln U.drew (HDU.out.drewN 1).lines hi hk hm hun hr).mono fun e w' h => ⟨_, h.1, rfl, h.2⟩
    go_region_law (first
      | (refine step_call rfl 82 #[.tmp 76, .tmp 77] #[116, 94] rfl #[.pointer (some ⟨L, i * 3, none⟩), .agg #[.int .i64 (m : Nat), .int .i64 (D.unit : Nat), .string r]] (by simp [Act.eval, Act.put]) (enter83 _ _ _) _ HFR.out ?_; rintro vv w5 ⟨rfl, hb5⟩; have hd5 := (HDU.out.drewN 1).belowQ hb5)
      | (refine step_call rfl 81 #[.tmp 69, .tmp 70, .tmp 78] #[49, 3, 9] rfl #[.pointer (some ⟨d, 0, none⟩), .int .i64 (i : Nat), .string (streamB m D.unit r)] (by simp [Act.eval]) (enter82 _ _ _ _) _ (dansw_step d L S i E _ _ (streamB m D.unit r) _ hd5 (by first | exact Nat.succ_pos _ | exact hu) hw1 HXX.out) ?_; rintro vv w6 ⟨rfl, v6, hd6, hf6⟩))
    all_goals
      have HF6 := hideF ((HFU.out.then_below (below_then_drew1 hb5)).trans (hf6.mono (wt_dev _ _ _ _)))
      have HD6 := hideF hd6
      obtain ⟨a6, k6, rfl, _⟩ := own_view hd6.wait
      clear c0 c1 c2 c11 c12 c13 c14 cf g0 g1 g2 gf hb5 hd6 hf6 hd5 HFR
      obtain ⟨c0, c1, c2, c11, c12, c13, c14, cf, hd6⟩ := HD6.out.cells
      simp only [List.length_append, List.length_singleton] at c14
      have q1 : decide ((D.batch : Int) <= ((D.wait.length + 1 : Nat) : Int)) = false := by simp; omega
      have q2 : decide ((D.batch : Int) <= ((D.uns : Int) + 1 : Int)) = false := by simp; omega
      have q3 : decide ((D.batch : Int) <= (D.wait.length : Int) + 1) = false := by simp; omega
      go_wp2_with fail
      go_quiet (fail)
      go_wp2
      go_ret
      exact ⟨_, rfl, HD6.out.drewN _, HF6.out.drewN _⟩
end Go.Proofs.YtcpldcojckhapaaGreat
