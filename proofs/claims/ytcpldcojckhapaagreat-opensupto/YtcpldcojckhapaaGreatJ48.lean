/-
  
-/
import Derived.Test.YtcpldcojckhapaaGreatJ47
set_option maxRecDepth 100000
namespace Go.Proofs.YtcpldcojckhapaaGreat
open Go.RowKit
theorem RigIn.reP {w : World} {B : Nat} {c : Nat -> Nat} {q q' : Plc} {D D' : Dev} {s : Ls} {nd : Nat} {F : Cf} (h : RigIn w B c q D s nd) (hD : OfCf D F) (hD' : OfCf D' F) (e1 : q'.g = q.g) (e2 : q'.d = q.d) (e3 : q'.dv = q.dv) (e4 : q'.wt = q.wt) (e5 : q'.p.r = q.p.r) (e6 : q'.p.lb = q.p.lb) (e7 : q'.p.cap = q.p.cap) : RigIn w B c q' D' s nd := by
  have hr : rigC q' D' s.least = rigC q D s.least := by
    unfold rigC
    rw [e2, e3, e4, e5, e6, e7, hD'.sz.trans hD.sz.symm, hD'.kp.trans hD.kp.symm, hD'.unit.trans hD.unit.symm, hD'.nl.trans hD.nl.symm, hD'.batch.trans hD.batch.symm]
  exact ⟨by rw [hr, e1]; exact h.rig, by rw [e3]; exact h.dk, by rw [e4]; exact h.wet, by rw [e1]; exact h.cg, by rw [e3]; exact h.cd, by rw [e4]; exact h.cw, by rw [e1]; exact h.lo⟩
theorem dev_called {w w' : World} {B : Nat} {c : Nat -> Nat} {q : Plc} {D D' : Dev} {wv' : Value} (h : DevC w B c q D) (hn : Nrm w B c) (hi : DevIn w' q.d q.L q.S q.E wv' D') (hf : FtT D.base (devT q.d q.L q.S q.E) w w') (hb : D'.base = D.base) (k : Nat) : Fc c 2 w w' /\ DevC w' B (nc w' B (colN w c k)) { q with wv := wv' } D' := by
  have hl := h.lo
  have hfc : Fc c 2 w w' := Fc.of_ft hf h.cd h.cL h.cS h.cE (fun g _ h0 => by have := (hn.zero g).1 h0; omega)
  have h0 := h.inn
  refine ⟨hfc, DevC.nc ⟨hi, (colN_agr w c k _ (lt_of_block h0.dev)).trans h.cd, (colN_agr w c k _ h0.lines.lt).trans h.cL, (colN_agr w c k _ (lt_of_block h0.store)).trans h.cS, fun i h4 => (colN_agr w c k _ (h0.ent i h4).lt).trans (h.cE i h4), by rw [hb]; exact hl⟩⟩
theorem OfCf.same {D D' : Dev} {F : Cf} (h : OfCf D F) (hs : Same D D') : OfCf D' F := ⟨hs.sz.trans h.sz, hs.kp.trans h.kp, hs.unit.trans h.unit, hs.nl.trans h.nl, hs.batch.trans h.batch, hs.sec.trans h.sec, fun i => by rw [hs.ln]; exact h.kind i⟩
theorem OfCf.line {D : Dev} {F : Cf} (h : OfCf D F) (i : Nat) (s : ByteArray) (hk : (D.ln i).kind <= 1) : OfCf (lineP D i s) F := ⟨h.sz, h.kp, h.unit, h.nl, h.batch, h.sec, fun a => by rw [lineP_kinds D i s hk]; exact h.kind a⟩
theorem Sim.line {z sec nd : Nat} {D : Dev} {s : Ls} {left : List (List Int)} {safe : Nat} {d : ByteArray} (h : Sim z sec nd D s left safe d) (i : Nat) (x : ByteArray) : Sim z sec nd (lineP D i x) s left safe d :=
  ⟨⟨h.fl.sz, h.fl.ent, h.fl.kp0, h.fl.kp2, h.fl.lat, h.fl.stamp, h.fl.sec, h.fl.wlen, h.fl.uns, h.fl.asc⟩, h.top, h.cm, h.rd, h.ll, h.la, h.ix, h.u0, h.le, h.sf, h.hz, h.hs, h.hn⟩
structure Fresh (D : Dev) (ys : Nat -> ByteArray) (zs : Nat -> Bool) : Prop where
  by' : ∀ i, (D.ln i).bytes = ⟨#[]⟩
  br : ∀ i, (D.ln i).broken = false
  ys : ∀ i, ys i = ⟨#[]⟩
  zs : ∀ i, zs i = false
  wt : D.wait = []
  arr : D.arr = 0
theorem Chk.len {nd : Nat} {W : List (Int × Int × ByteArray)} {A : List (Int × Int × Int × ByteArray)} (h : Chk nd W A) : W.length <= A.length := by
  induction h with
  | nil => exact Nat.le_refl _
  | write q x _ _ _ ih => simp only [List.length_cons]; omega
  | sync _ ih => simp only [List.length_cons]; omega
  | send x _ ih => simp only [List.length_cons]; omega
structure FedP (F : Cf) (nd : Nat) (D' : Dev) (s : Ls) (left' : List (List Int)) (safe' : Nat) (A : List (Int × Int × Int × ByteArray)) (W : List (Int × Int × ByteArray)) : Prop where
  chk : Chk nd W A
  al : A.length <= 900000
  wl : W.length <= 900000
  wet : s.wet = []
  ls : s.least <= 900000
  num : ∀ x ∈ W, 0 <= x.1 /\ x.1 <= 1000000000
  lose : ∀ n, n <= A.length -> MayLose F.z F.sec nd F.c F.h left' (runL n W A s)
  least : ∀ n, n <= A.length -> (runL n W A s).least <= 900000
  sim : ∃ d', Sim F.z F.sec nd D' (runL A.length W A s) left' safe' d'
  ok : DevOk D'
  ar : D'.arr <= 900000
  ll : ∀ l ∈ left', l.length <= 1000
  cf : OfCf D' F
theorem feed_pure {F : Cf} {nd : Nat} {D : Dev} {s : Ls} {left : List (List Int)} {safe : Nat} {d : ByteArray} (hs : Sim F.z F.sec nd D s left safe d) (hok : DevOk D) (hcf : OfCf D F) (hF : CfOk F) (hll : ∀ l ∈ left, l.length <= 1000) (i : Nat) (x : ByteArray) (hki : (D.ln i).kind <= 1) (hx : x.size <= 1048576) (hb : (D.ln i).bytes = ⟨#[]⟩) (hw : D.wait = []) (ha : D.arr = 0) :
    (refsP (lineP D i x) i left safe (asksP D i x)).1 = (feedP D i x).1 /\ FedP F nd (feedP D i x).1 s (refsP (lineP D i x) i left safe (asksP D i x)).2.2.1 (refsP (lineP D i x) i left safe (asksP D i x)).2.2.2 (feedP D i x).2 (refsP (lineP D i x) i left safe (asksP D i x)).2.1 := by
  obtain ⟨hs1, hs3, _⟩ := Cf.sec_le hF
  have hfl : (asksP D i x).length <= 131072 := by
    unfold asksP
    split
    . simp
    . have := (framesOf_spec ((D.ln i).bytes ++ x)).2.2
      rw [hb, ByteArray.size_append] at this
      have h0 : (⟨#[]⟩ : ByteArray).size = 0 := rfl
      rw [hb]
      omega
  obtain ⟨e1, e2, e3, e4, e5, e6⟩ := takes_sim (hs.line i x) (lineP_ok hok i x) i (asksP D i x).reverse (asksP D i x) (List.reverse_reverse _).symm
  have hm := many (lineP_ok hok i x) i left safe (fun y hy => by rw [show (lineP D i x).wait = D.wait from rfl, hw] at hy; cases hy) (by rw [show (lineP D i x).sec = D.sec from rfl, hcf.sec]; exact hs3) hll (asksP D i x).reverse (asksP D i x) (List.reverse_reverse _).symm
  have hkp : (lineP D i x).kp 0 = F.c /\ (lineP D i x).kp 2 = F.h := by rw [show (lineP D i x).kp = D.kp from rfl, hcf.kp]; exact ⟨rfl, rfl⟩
  rw [hkp.1, hkp.2] at e5
  have hal : (feedP D i x).2.length <= 655360 := by
    have h1 := hm.acts
    rw [show (lineP D i x).wait = D.wait from rfl, hw] at h1
    have h2 : (feedP D i x).2.length + (takesP (lineP D i x) i (asksP D i x)).1.wait.length <= 0 + 5 * (asksP D i x).length := h1
    omega
  have harr : (feedP D i x).1.arr <= 131072 := by
    have h1 := hm.arr
    rw [show (lineP D i x).arr = D.arr from rfl, ha] at h1
    have h2 : (feedP D i x).1.arr <= 0 + (asksP D i x).length := h1
    omega
  have hls : s.least <= 0 := by have := hs.le; rw [ha] at this; exact this
  have hnum : ∀ y ∈ (refsP (lineP D i x) i left safe (asksP D i x)).2.1, 0 <= y.1 /\ y.1 <= 131072 := fun y hy => by
    have := hm.num y hy
    have h2 : y.1 <= ((feedP D i x).1.arr : Int) := this.2
    omega
  have hcl := e4.len
  exact ⟨e1, e4, by omega, by have h2 : _ <= (feedP D i x).2.length := hcl; omega, hs.cm.wet, by omega, fun y hy => by have := hnum y hy; omega, e5, fun n _ => runL_least n _ _ s 900000 (by omega) (fun y hy => by have := hnum y hy; omega), e6, e2, by omega, hm.ll, (hcf.line i x hki).same hm.sam⟩
structure FedA (w wx : World) (B : Nat) (c1 : Nat -> Nat) (q : Plc) (kb m : Nat) (b : Bks) (F : Cf) (D D' : Dev) (s : Ls) (left : List (List Int)) (safe : Nat) (ys : Nat -> ByteArray) (zs : Nat -> Bool) (nd : Nat) (o : OpV) (A : List (Int × Int × Int × ByteArray)) (v wv' : Value) : Prop where
  sb : StB wx B c1 q kb m b F D s left safe ys zs nd
  dv : DevC wx B c1 { q with wv := wv' } D'
  row : wx.ownsRow B 77 4 v A.length (A.flatMap encA)
  vc : ∀ g, v.ownBlock = some g -> c1 g = 1 /\ ¬ b.on kb g
  bx : wx.heap[w.heap.size]? = some (.cells (opA o) 42 (0, 0))
  cb : c1 w.heap.size = 9
  bl : Below B w wx
structure FedB (w wx : World) (B : Nat) (c1 : Nat -> Nat) (q : Plc) (kb m : Nat) (b : Bks) (F : Cf) (D : Dev) (s : Ls) (left : List (List Int)) (safe : Nat) (ys : Nat -> ByteArray) (zs : Nat -> Bool) (nd : Nat) (o : OpV) (A : List (Int × Int × Int × ByteArray)) (W : List (Int × Int × ByteArray)) (v rv : Value) : Prop where
  sb : StB wx B c1 q kb m b F D s left safe ys zs nd
  dv : DevC wx B c1 q D
  row : wx.ownsRow B 77 4 v A.length (A.flatMap encA)
  vc : ∀ g, v.ownBlock = some g -> c1 g = 1 /\ ¬ b.on kb g
  rw' : wx.ownsRow B 113 3 rv W.length (W.flatMap encW)
  rc : ∀ g, rv.ownBlock = some g -> c1 g ≠ 7
  bx : wx.heap[w.heap.size]? = some (.cells (opA o) 42 (0, 0))
  bl : Below B w wx
set_option maxHeartbeats 8000000 in
theorem do_feed (w : World) (B : Nat) (c : Nat -> Nat) (q : Plc) (kb m : Nat) (b : Bks) (F : Cf) (D : Dev) (s : Ls) (left : List (List Int)) (safe : Nat) (ys : Nat -> ByteArray) (zs : Nat -> Bool) (nd : Nat) (d : ByteArray) (o : OpV) (i : Nat) (h : Full w B c q kb m b F D s left safe ys zs nd d) (hfr : Fresh D ys zs) (hF : CfOk F) (hm : m <= 600000) (hnd : 2 * F.sec <= nd /\ nd <= 64) (ho : OpR o) (hk : o.kind = 2) (ha : o.a = (i : Nat)) (hi : i < F.n) (hos : o.s.size <= 1048576) :
    Calls Tryz.prog 9 #[.pointer (some ⟨q.g, 0, none⟩), .agg (opA o), .pointer (some ⟨kb, 0, none⟩)] w fun e w' => e = .returned (.bool true) /\ Stands w w' B q kb (m + 11) F nd := by
  obtain ⟨hs1, hs3, _⟩ := Cf.sec_le hF
  have hnd0 : 0 < nd := by have := hnd.1; omega
  have hB := h.sb.bk.bk.lo.2
  have hil : i < D.nl := by rw [h.sb.cf.nl]; exact hi
  have hki : (D.ln i).kind <= 1 := by rw [h.sb.cf.kind]; exact hF.kn i hi
  obtain ⟨X, hX⟩ : ∃ X, X = w.alloc (.cells (opA o) 42) := ⟨_, rfl⟩
  have hXb : Below w.heap.size w X := by rw [hX]; exact bel_alloc (Below.refl _ _) _
  have hXg : X.heap[w.heap.size]? = some (.cells (opA o) 42 (0, 0)) := by rw [hX]; exact heap_alloc_new w _
  have hFX := h.below hXb.drew
  obtain ⟨cX, hcX⟩ : ∃ cX, cX = nc X.drew B (colN w c 9) := ⟨_, rfl⟩
  rw [<- hcX] at hFX
  have hc9 : cX w.heap.size = 9 := by rw [hcX]; exact nc_at (w := X.drew) hB hXg (by decide) (colN_new w c 9 _ (Nat.le_refl _)) (by decide)
  have z0 : X.cell? ⟨w.heap.size, 0, none⟩ = some (.int .i64 2) := by rw [cell_of_row _ _ _ _ _ _ hXg]; show some (Value.int .i64 o.kind) = _; rw [hk]
  have z2 : X.cell? ⟨w.heap.size, 2, none⟩ = some (.int .i64 (i : Nat)) := by rw [cell_of_row _ _ _ _ _ _ hXg]; show some (Value.int .i64 o.a) = _; rw [ha]
  have z5 : X.cell? ⟨w.heap.size, 5, none⟩ = some (.string o.s) := (cell_of_row _ _ _ _ _ _ hXg).trans rfl
  obtain ⟨_, _, _, _, _, _, k0, _⟩ := hFX.sb.cells hnd0
  have k0' : X.cell? ⟨q.g, 0, none⟩ = some (.pointer (some ⟨q.d, 0, none⟩)) := k0
  have hXl := lt_of_block hXg
  have HFP := hideF (feed_pure hFX.sim hFX.ok hFX.sb.cf hF hFX.ll i o.s hki hos (hfr.by' i) hfr.wt hfr.arr)
  have HLF := hideF hFX.sim.ll
  have HOK := hideF hFX.ok
  have HFE := hideF (feed_any q.d q.L q.S i q.E q.wv D o.s X.drew hFX.dv.inn hFX.ok hil hki (fun _ => by rw [hfr.by' i]; show 0 <= _; omega) (by rw [hfr.by' i]; show 0 + _ <= _; omega) (by rw [hfr.arr]; omega))
  -- behind the device's Feed
  have hstep : ∀ (w1 : World) (v wv' : Value), w1.ownsRow X.drew.heap.size 77 4 v (feedP D i o.s).2.length ((feedP D i o.s).2.flatMap encA) -> DevIn w1 q.d q.L q.S q.E wv' (feedP D i o.s).1 -> FtT D.base (devT q.d q.L q.S q.E) X.drew w1 -> ∃ c1, FedA w w1 B c1 q kb m b F D (feedP D i o.s).1 s left safe ys zs nd o (feedP D i o.s).2 v wv' := fun w1 v wv' hv hdi hft => by
    have hbase : (feedP D i o.s).1.base = D.base := by
      have := (takesP_ok (lineP_ok hFX.ok i o.s) i (asksP D i o.s) (asksP D i o.s).length (Nat.le_refl _)).2.1.base
      rw [List.take_length] at this
      exact this
    obtain ⟨hf, hD1⟩ := dev_called hFX.dv hFX.sb.nr hdi hft hbase 1
    have hag := colN_agr X.drew cX 1
    have hbx1 := (hf.keep _ _ _ hXg (.inl (by decide)) (by rw [hc9]; decide)).trans hXg
    have hBX : B <= X.drew.heap.size := hFX.sb.bk.bk.lo.2
    refine ⟨_, StB.norm (hFX.sb.bk.frame hf hag (by decide)) (hFX.sb.rf.frame hf hag (by decide) (by decide) (by decide)) (hFX.sb.rg.frame hf hag (by decide)) hFX.sb.lb hFX.sb.cf, hD1, own_base hv hBX, fun g hg => ⟨nc_row (B := B) hv hBX (by decide) (show (1 : Nat) ≠ 0 by decide) (fun g hg => colN_new _ _ 1 g (hv.lt g hg).1) g hg, fun hb => by have h1 := hFX.sb.bk.bk.here g hb; have h2 := (hv.lt g hg).1; omega⟩, hbx1, nc_at hB hbx1 (by decide) ((hag _ hXl).trans hc9) (by decide), (hXb.drew.mono hB).trans (hf.toBelow hFX.sb.nr (by decide) hBX)⟩
  have HST := hideF hstep
  have HFX := hideF hFX
  have HFR := hideF hfr
  clear hstep hFX hc9 hcX hXb h hk k0 hfr hXg
  go_enter Tryz.func9, Tryz.ntmps9
  go_upto_region 1 with fail
  rw [<- hX]
  clear hX
  go_upto_region 3 with fail
  go_cut [7, 8] from 26 to 37 (fun v e wx => e = .int .i64 0 /\ ∃ wv' c1, FedA w wx B c1 q kb m b F D (feedP D i o.s).1 s left safe ys zs nd o (feedP D i o.s).2 v wv')
  case first =>
    go_region_held3 (fun w' => w'.cell? ⟨q.g, 0, none⟩ = some (.pointer (some ⟨q.d, 0, none⟩)) /\ w'.cell? ⟨w.heap.size, 2, none⟩ = some (.int .i64 (i : Nat)) /\ w'.cell? ⟨w.heap.size, 5, none⟩ = some (.string o.s)) (go_keep)
      (first
        | (go_at_call 20; refine HFE.out.mono ?_; rintro e w6 ⟨v, wv', rfl, hov, hdi, hft⟩; obtain ⟨c1, hA⟩ := HST.out w6 v wv' hov hdi hft; obtain ⟨_, _, _, _, _, _, f1, _⟩ := hA.sb.cells hnd0; have f2 := (cell_of_row _ _ 2 _ _ _ hA.bx).trans (show _ = some (Value.int .i64 (i : Nat)) from congrArg (fun x => some (Value.int .i64 x)) ha); have f3 := (cell_of_row _ _ 5 _ _ _ hA.bx).trans (show _ = some (Value.string o.s) from rfl)))
    have HA := hideF hA
    clear hA hov hdi hft f1 f2 f3
    go_wp2
    go_meet
    exact ⟨rfl, _, _, HA.out⟩
  case rest =>
    obtain ⟨rfl, wv1, c1, hA⟩ := hcut
    clear z0 z2 z5 k0' hXl HFE HST HFX
    obtain ⟨_, _, _, _, _, _, _, k1, _, _, _, _, _, _, _, _, _, _, _, _, _, hgl⟩ := hA.sb.cells hnd0
    have z2 : wc.cell? ⟨w.heap.size, 2, none⟩ = some (.int .i64 (i : Nat)) := by rw [cell_of_row _ _ _ _ _ _ hA.bx]; show some (Value.int .i64 o.a) = _; rw [ha]
    have z5 : wc.cell? ⟨w.heap.size, 5, none⟩ = some (.string o.s) := (cell_of_row _ _ _ _ _ _ hA.bx).trans rfl
    have hrf := hA.sb.rf.frame (k := 9) (w' := wc.drew) (Fc.of_below (Below.refl _ _).drew) (Agr.refl _ _) (by decide) (by decide) (by decide)
    have HRF := hideF (rfeed_any wc.drew B c1 q.p D left safe ys zs i o.s hrf HOK.out hil hki (HFR.out.ys i) (HFR.out.zs i) (HFR.out.by' i) (HFR.out.br i) (by omega) HLF.out (by rw [HFR.out.arr]; omega))
    obtain ⟨R, hR⟩ : ∃ R, R = refsP (lineP D i o.s) i left safe (asksP D i o.s) := ⟨_, rfl⟩
    obtain ⟨T, hT⟩ : ∃ T, T = feedP D i o.s := ⟨_, rfl⟩
    rw [<- hR] at HRF
    rw [<- hR, <- hT] at HFP
    rw [<- hT] at hA
    obtain ⟨T1, hT1⟩ : ∃ T1, T1 = T.1 := ⟨_, rfl⟩
    obtain ⟨A, hA2⟩ : ∃ A, A = T.2 := ⟨_, rfl⟩
    rw [<- hT1, <- hA2] at HFP hA
    clear hR hT hT1 hA2 hrf
    have hst2 : ∀ (w6 : World) (rv : Value) (p' : Rfm) (c' : Nat -> Nat) (ys' : Nat -> ByteArray) (zs' : Nat -> Bool), w6.ownsRow wc.drew.heap.size 113 3 rv R.2.1.length (R.2.1.flatMap encW) -> RefIn w6 B c' p' R.1 R.2.2.1 R.2.2.2 ys' zs' -> Agr wc.drew c1 c' -> Fc c1 3 wc.drew w6 -> p'.r = q.p.r -> p'.lb = q.p.lb -> p'.cap = q.p.cap -> (∀ g, rv.ownBlock = some g -> c' g = 9) -> FedB w w6 B (nc w6 B c') { q with wv := wv1, p := p' } kb m b F T1 s R.2.2.1 R.2.2.2 ys' zs' nd o A R.2.1 u7 rv := fun w6 rv p' c' ys' zs' hrv hrI hag hf6 e1 e2 e3 hrc => by
      have hf : Fc c1 3 wc w6 := (Fc.of_below (k := 3) (Below.refl _ _).drew).trans hf6 (Agr.refl _ _)
      have hrI' := hrI
      rw [HFP.out.1] at hrI'
      have hBc : B <= wc.drew.heap.size := hA.sb.bk.bk.lo.2
      have hD2 := hA.dv.frame hA.sb.nr hf hag (by decide)
      have hbx := (hf.keep _ _ _ hA.bx (.inl (by decide)) (by rw [hA.cb]; decide)).trans hA.bx
      have hrow := hf.own hA.row (by decide) (fun g hg => by rw [(hA.vc g hg).1]; decide)
      refine ⟨StB.norm (hA.sb.bk.frame hf hag (by decide)) hrI' ((hA.sb.rg.frame hf hag (by decide)).reP hA.sb.cf HFP.out.2.cf rfl rfl rfl rfl e1 e2 e3) (by show B <= p'.lb; rw [e2]; exact hA.sb.lb) HFP.out.2.cf, DevC.nc ⟨hD2.inn, hD2.cd, hD2.cL, hD2.cS, hD2.cE, hD2.lo⟩, hrow, fun g hg => ⟨nc_row (B := B) hrow (Nat.le_refl _) (by decide) (show (1 : Nat) ≠ 0 by decide) (fun g hg => (hag g (hA.row.lt g hg).2).trans (hA.vc g hg).1) g hg, (hA.vc g hg).2⟩, own_base hrv hBc, fun g hg => by rw [nc_row (B := B) hrv hBc (by decide) (show (9 : Nat) ≠ 0 by decide) hrc g hg]; decide, hbx, hA.bl.trans (hf.toBelow hA.sb.nr (by decide) hA.sb.bk.bk.lo.2)⟩
    have HST := hideF hst2
    have HFQ := hideF HFP.out.2
    clear hst2 hA HFP
    go_upto_region 4 with fail
    go_cut [9, 10] from 38 to 49 (fun rv e wx => e = .int .i64 0 /\ ∃ p' c' ys' zs', FedB w wx B (nc wx B c') { q with wv := wv1, p := p' } kb m b F T1 s R.2.2.1 R.2.2.2 ys' zs' nd o A R.2.1 u7 rv)
    case first =>
      go_region_held3 (fun w' => w'.cell? ⟨q.g, 1, none⟩ = some (.pointer (some ⟨q.p.r, 0, none⟩)) /\ w'.cell? ⟨w.heap.size, 2, none⟩ = some (.int .i64 (i : Nat)) /\ w'.cell? ⟨w.heap.size, 5, none⟩ = some (.string o.s)) (go_keep)
        (first
          | (go_at_call 32; refine HRF.out.mono ?_; rintro e w6 ⟨rv, p', c', ys', zs', rfl, hrv, hrI, hag, hf6, e1, e2, e3, hrc⟩; have hA := HST.out w6 rv p' c' ys' zs' hrv hrI hag hf6 e1 e2 e3 hrc; obtain ⟨_, _, _, _, _, _, _, f1, _⟩ := hA.sb.cells hnd0; have f1' : w6.cell? ⟨q.g, 1, none⟩ = some (.pointer (some ⟨q.p.r, 0, none⟩)) := (by rw [<- e1]; exact f1); have f2 := (cell_of_row _ _ 2 _ _ _ hA.bx).trans (show _ = some (Value.int .i64 (i : Nat)) from congrArg (fun x => some (Value.int .i64 x)) ha); have f3 := (cell_of_row _ _ 5 _ _ _ hA.bx).trans (show _ = some (Value.string o.s) from rfl)))
      have HA := hideF hA
      clear hA hrv hrI hag hf6 e1 e2 e3 hrc f1 f2 f3 f1'
      go_wp2
      go_meet
      exact ⟨rfl, _, _, _, _, HA.out⟩
    case rest =>
      obtain ⟨rfl, p', c', ys', zs', hB2⟩ := hcut
      obtain ⟨a7, k7, rfl, _⟩ := own_view hB2.row
      obtain ⟨a9, k9, rfl, _⟩ := own_view hB2.rw'
      clear k1 hgl z2 z5 HRF HST
      have HBX := hideF hB2.bx
      have HBL := hideF hB2.bl
      obtain ⟨d', hsim⟩ := HFQ.out.sim
      have P := HFQ.out
      have HTH := hideF (through_any wc B (nc wc B c') { q with wv := wv1, p := p' } kb m b F T1 s R.2.2.1 R.2.2.2 ys' zs' nd o (.slice a7 A.length k7) (.slice a9 R.2.1.length k9) B B A R.2.1 d' hB2.sb hB2.dv hF (by omega) hnd ho hB2.row (Nat.le_refl _) hB2.vc hB2.rw' hB2.rc P.chk P.al P.wl P.wet P.ls P.num P.lose P.least hsim P.ok P.ar P.ll)
      clear hB2 hsim P HFQ
      go_wp2_with (refine wpList_load42 rfl 4 rfl w.heap.size rfl o HBX.out ?_)
      refine HTH.out.mono ?_
      rintro e w4 ⟨rfl, hst⟩
      obtain ⟨q4, c4, b4, D4, s4, l4, sf4, y4, z4, d4, g1, g2, g3, g4, g5, g6, g7, g8⟩ := hst
      have HG : Hid (Stands w w4 B q kb (m + 11) F nd) := ⟨q4, c4, b4, D4, s4, l4, sf4, y4, z4, d4, g1, g2, g3, g4, g5, g6, g7, HBL.out.trans g8⟩
      clear g1 g2 g3 g4 g5 g6 g7 g8
      go_wp2
      go_ret
      exact ⟨rfl, HG.out⟩
end Go.Proofs.YtcpldcojckhapaaGreat

set_option maxRecDepth 100000
namespace Go.Proofs.YtcpldcojckhapaaGreat
open Go.RowKit
set_option maxHeartbeats 1000000 in
theorem rfeed_none (w : World) (B : Nat) (c : Nat -> Nat) (p : Rfm) (D : Dev) (left : List (List Int)) (safe : Nat) (ys : Nat -> ByteArray) (zs : Nat -> Bool) (n : Int) (s : ByteArray) (h : RefIn w B c p D left safe ys zs) (hn : n < 0 ∨ (D.nl : Int) <= n) :
    Calls Tryz.prog 32 #[.pointer (some ⟨p.r, 0, none⟩), .int .i64 n, .string s] w fun e w' => e = .returned (.tuple #[.slice none 0 0, .int .i64 1]) /\ w' = w := by
  obtain ⟨_, _, _, c7, _, _, _, _, _, _, _, _, hrl⟩ := h.cells
  clear h
  by_cases h0 : n < 0
  . go_enter Tryz.func32, Tryz.ntmps32
    go_wp2
    go_ret2
    exact ⟨rfl, rfl⟩
  . have h1 : (D.nl : Int) <= n := by omega
    have h2 : 0 <= n := by omega
    clear hn
    go_enter Tryz.func32, Tryz.ntmps32
    go_wp2
    go_ret2
    exact ⟨rfl, rfl⟩
set_option maxHeartbeats 4000000 in
theorem do_feed_none (w : World) (B : Nat) (c : Nat -> Nat) (q : Plc) (kb m : Nat) (b : Bks) (F : Cf) (D : Dev) (s : Ls) (left : List (List Int)) (safe : Nat) (ys : Nat -> ByteArray) (zs : Nat -> Bool) (nd : Nat) (d : ByteArray) (o : OpV) (h : Full w B c q kb m b F D s left safe ys zs nd d) (hnd : 0 < nd) (hk : o.kind = 2) (ha : o.a < 0 ∨ (F.n : Int) <= o.a) :
    Calls Tryz.prog 9 #[.pointer (some ⟨q.g, 0, none⟩), .agg (opA o), .pointer (some ⟨kb, 0, none⟩)] w fun e w' => e = .returned (.bool true) /\ Stands w w' B q kb m F nd := by
  have hB := h.sb.bk.bk.lo.2
  have hnl : 1 <= D.nl /\ D.nl <= 4 := h.ok.nl
  have ha' : o.a < 0 ∨ (D.nl : Int) <= o.a := by rw [h.sb.cf.nl]; exact ha
  obtain ⟨X, hX⟩ : ∃ X, X = w.alloc (.cells (opA o) 42) := ⟨_, rfl⟩
  have hXb : Below w.heap.size w X := by rw [hX]; exact bel_alloc (Below.refl _ _) _
  have hXg : X.heap[w.heap.size]? = some (.cells (opA o) 42 (0, 0)) := by rw [hX]; exact heap_alloc_new w _
  have hFX := h.below hXb.drew
  have hFX2 := h.below hXb.drew.drew
  have z0 : X.cell? ⟨w.heap.size, 0, none⟩ = some (.int .i64 2) := by rw [cell_of_row _ _ _ _ _ _ hXg]; show some (Value.int .i64 o.kind) = _; rw [hk]
  have z2 : X.cell? ⟨w.heap.size, 2, none⟩ = some (.int .i64 o.a) := (cell_of_row _ _ _ _ _ _ hXg).trans rfl
  have z5 : X.cell? ⟨w.heap.size, 5, none⟩ = some (.string o.s) := (cell_of_row _ _ _ _ _ _ hXg).trans rfl
  obtain ⟨_, _, _, _, _, _, k0, k1, _⟩ := hFX.sb.cells hnd
  have k0' : X.cell? ⟨q.g, 0, none⟩ = some (.pointer (some ⟨q.d, 0, none⟩)) := k0
  have k1' : X.cell? ⟨q.g, 1, none⟩ = some (.pointer (some ⟨q.p.r, 0, none⟩)) := k1
  have HFE := hideF (feed_none q.d q.L q.S q.E q.wv D o.a o.s X.drew hFX.dv.inn hnl ha')
  have HRF := hideF (rfeed_none X.drew.drew B _ q.p D left safe ys zs o.a o.s hFX2.sb.rf ha')
  have HFX := hideF hFX2
  have HBX := hideF (hXb.drew.drew.mono hB)
  clear hFX hFX2 hXb h hk k0 k1 hXg ha ha'
  go_enter Tryz.func9, Tryz.ntmps9
  go_upto_region 1 with fail
  rw [<- hX]
  clear hX
  go_upto_region 3 with fail
  go_region_held3 (fun w' => w' = X.drew /\ w'.cell? ⟨q.g, 0, none⟩ = some (.pointer (some ⟨q.d, 0, none⟩)) /\ w'.cell? ⟨w.heap.size, 2, none⟩ = some (.int .i64 o.a) /\ w'.cell? ⟨w.heap.size, 5, none⟩ = some (.string o.s)) (go_keep)
    (first
      | (go_at_call 20; refine HFE.out.mono ?_; rintro e w6 ⟨rfl, rfl⟩))
  go_upto_region 4 with fail
  go_region_held3 (fun w' => w' = X.drew.drew /\ w'.cell? ⟨q.g, 1, none⟩ = some (.pointer (some ⟨q.p.r, 0, none⟩)) /\ w'.cell? ⟨w.heap.size, 2, none⟩ = some (.int .i64 o.a) /\ w'.cell? ⟨w.heap.size, 5, none⟩ = some (.string o.s)) (go_keep)
    (first
      | (go_at_call 32; refine HRF.out.mono ?_; rintro e w6 ⟨rfl, rfl⟩))
  go_wp2
  go_ret
  exact ⟨rfl, HFX.out.stands rfl HBX.out⟩
theorem flushP_dok {D : Dev} (hok : DevOk D) : DevOk (flushP D).1 := by
  by_cases hu : D.uns = 0
  . have e : flushP D = (D, []) := by unfold flushP; rw [if_pos hu]
    rw [e]; exact hok
  . exact flushP_ok hok.fl hok.unit hok.batch hok.nl hu
theorem flushP_fields (D : Dev) : (flushP D).1.wait = (if D.uns = 0 then D.wait else []) /\ (flushP D).1.uns = 0 /\ (flushP D).1.ent = D.ent := by
  unfold flushP
  split
  . rename_i h; exact ⟨rfl, h, rfl⟩
  . exact ⟨rfl, rfl, rfl⟩
theorem OfCf.flush {D : Dev} {F : Cf} (h : OfCf D F) : OfCf (flushP D).1 F := h.same (flushP_same D).1
theorem flush_pure {F : Cf} {nd : Nat} {D : Dev} {s : Ls} {left : List (List Int)} {safe : Nat} {d : ByteArray} (hs : Sim F.z F.sec nd D s left safe d) (hok : DevOk D) (hcf : OfCf D F) (hll : ∀ l ∈ left, l.length <= 1000) (ha : D.arr <= 900000) :
    FedP F nd (flushP D).1 s left (left.length - 1) (flushP D).2 D.wait := by
  have hkp : D.kp 0 = F.c /\ D.kp 2 = F.h := by rw [hcf.kp]; exact ⟨rfl, rfl⟩
  have hle := hs.le
  have hlen : left.length - 1 = D.arr := by rw [hs.ll]; rfl
  have hwl : D.wait.length <= 8 := hs.fl.wlen
  have hal := flushP_len D hs.fl
  have har : (flushP D).1.arr <= 900000 := by rw [(flushP_same D).2]; exact ha
  have hnum : ∀ x ∈ D.wait, 0 <= x.1 /\ x.1 <= 900000 := fun x hx => by have := hs.top x hx; omega
  have hlea : ∀ n, n <= (flushP D).2.length -> (runL n D.wait (flushP D).2 s).least <= 900000 := fun n _ => runL_least n _ _ s 900000 (by omega) (fun y hy => by have := hnum y hy; omega)
  have key : Chk nd D.wait (flushP D).2 /\ (∀ n, n <= (flushP D).2.length -> MayLose F.z F.sec nd F.c F.h left (runL n D.wait (flushP D).2 s)) /\ ∃ d', Sim F.z F.sec nd (flushP D).1 (runL (flushP D).2.length D.wait (flushP D).2 s) left (left.length - 1) d' := by
    by_cases hu : D.uns = 0
    . have e : flushP D = (D, []) := by unfold flushP; rw [if_pos hu]
      have hw := hok.w0 hu
      rw [e, hw, hlen]
      refine ⟨Chk.nil, fun n hn => ?_, d, ?_⟩
      . have h0 : n = 0 := Nat.le_zero.1 hn
        subst h0
        have := hs.lose
        rw [hkp.1, hkp.2] at this
        exact this
      . exact hs.flush0 hu
    . obtain ⟨h1, h2, h3⟩ := hs.flush hu
      rw [hkp.1, hkp.2] at h2
      rw [hlen]
      exact ⟨h1, h2, _, h3⟩
  obtain ⟨k1, k2, k3⟩ := key
  exact ⟨k1, by omega, by omega, hs.cm.wet, by omega, fun x hx => by have := hnum x hx; omega, k2, hlea, k3, flushP_dok hok, har, hll, hcf.flush⟩
end Go.Proofs.YtcpldcojckhapaaGreat
