/-
  
-/
import Derived.Test.YtcpldcojckhapaaGreatJ43
import Derived.Deep.CutRange
import Derived.Deep.RegionHeld3
set_option maxRecDepth 100000
namespace Go.Proofs.YtcpldcojckhapaaGreat
open Go.RowKit
theorem BookIn.more {w : World} {B kb m m' : Nat} {b : Bks} (h : BookIn w B kb m b) (hm : m <= m') : BookIn w B kb m' b :=
  ⟨h.at', h.LI, h.LF, h.LA, h.LT, h.PI, h.PF, h.PA, h.PT, h.CI, h.WI, h.CF, h.WF, h.CA, h.WA, h.CT, h.WT, ⟨h.nI.1, by have := h.nI.2; omega⟩, ⟨h.nF.1, by have := h.nF.2; omega⟩, ⟨h.nA.1, by have := h.nA.2; omega⟩, ⟨h.nT.1, by have := h.nT.2; omega⟩, h.xI, h.xF, h.xA, h.xT, h.here, h.lo⟩
theorem StB.more {w : World} {B : Nat} {c : Nat -> Nat} {q : Plc} {kb m m' : Nat} {b : Bks} {F : Cf} {D : Dev} {s : Ls} {left : List (List Int)} {safe : Nat} {ys : Nat -> ByteArray} {zs : Nat -> Bool} {nd : Nat} (h : StB w B c q kb m b F D s left safe ys zs nd) (hm : m <= m') : StB w B c q kb m' b F D s left safe ys zs nd :=
  ⟨⟨h.bk.bk.more hm, h.bk.col, h.bk.hi, h.bk.ty⟩, h.rf, h.rg, h.nr, h.lb, h.cf⟩
theorem Cf.sec_le {F : Cf} (hF : CfOk F) : 1 <= F.sec /\ F.sec <= 3 /\ F.z <= 62 * F.sec := by
  have h1 := hF.c
  have h2 := hF.h
  have h3 := hF.s0
  have h4 := hF.s2
  have hz : F.z = (F.c + 7) / 8 + 2 * F.h := rfl
  have hs : F.sec = max 1 ((F.z + 61) / 62) := rfl
  omega
def ReAt (w wx : World) (B : Nat) (q : Plc) (kb m1 : Nat) (F : Cf) (D : Dev) (least : Nat) (left : List (List Int)) (safe : Nat) (ys : Nat -> ByteArray) (zs : Nat -> Bool) (nd : Nat) (o : OpV) (q1 : Plc) (ov : Value) : Prop :=
  ∃ b' c' N s1 wt' lat st d, Reop w wx B c' { q with wt := wt' } kb m1 b' F D s1 left safe ys zs nd lat st d q1 ov N o /\ s1.least = least
theorem runL_wet : ∀ (n : Nat) (W : List (Int × Int × ByteArray)) (A : List (Int × Int × Int × ByteArray)) (s : Ls), (runL n W A s).wet.length <= s.wet.length + n := by
  intro n
  induction n with
  | zero => intro W A s; rw [runL]; omega
  | succ n ih =>
    intro W A s
    cases A with
    | nil => rw [runL]; omega
    | cons a A =>
      rw [runL]
      split
      . have := ih W A { s with wet := s.wet ++ [a] }
        have e : (s.wet ++ [a]).length = s.wet.length + 1 := by simp
        simp only [e] at this
        omega
      . split
        . have := ih W A (syncL s)
          have e : (syncL s).wet.length = 0 := rfl
          rw [e] at this
          omega
        . have := ih W.tail A { s with least := max s.least (W.headD (0, 0, ⟨#[]⟩)).1.toNat }
          exact Nat.le_trans this (by show s.wet.length + n <= _; omega)
theorem runL_least0 {nd : Nat} {W : List (Int × Int × ByteArray)} {A : List (Int × Int × Int × ByteArray)} (h : Chk nd W A) : W = [] -> ∀ (n : Nat) (s : Ls), (runL n W A s).least = s.least := by
  induction h with
  | nil => intro _ n s; cases n <;> rfl
  | write q x _ _ _ ih =>
    intro hW n s
    cases n with
    | zero => rfl
    | succ n => rw [runL, if_pos rfl]; exact ih hW n _
  | sync _ ih =>
    intro hW n s
    cases n with
    | zero => rfl
    | succ n => rw [runL, if_neg (by decide), if_pos rfl]; exact ih hW n _
  | send x _ _ => intro hW; simp at hW
theorem load42 (W : World) (g : Nat) (o : OpV) (h : W.heap[g]? = some (.cells (opA o) 42 (0, 0))) : (Instr.loadAt 42 (.pointer (some ⟨g, 0, none⟩))).run Tryz.prog W = .ok (.agg (opA o)) W := by
  have hl := run_loadCells_list (P := Tryz.prog) W ⟨g, 0, none⟩ (opA o).toList (fun j v hj => by
    have e : (⟨g, 0, none⟩ : Addr).add j = ⟨g, j, none⟩ := by by_cases h0 : j = 0 <;> simp [Addr.add, h0]
    rw [e, cell_of_row _ _ _ _ _ _ h]
    simpa using hj)
  have e20 : (opA o).toList.length = 20 := rfl
  rw [e20, Array.toArray_toList] at hl
  unfold Instr.loadAt loadVar
  have h0 : (Instr.sureAddr (.pointer (some ⟨g, 0, none⟩))).run Tryz.prog W = Result.ok ⟨g, 0, none⟩ W := rfl
  rw [Sem.run_bind, h0, Result.andThen_ok, Sem.run_bind, Tryz.isAgg42, Result.andThen_ok, if_pos rfl, Sem.run_bind, Tryz.sizeOf42, Result.andThen_ok, Sem.run_bind, hl, Result.andThen_ok, Sem.run_pure]
theorem wpList_load42 {w : World} {ops : Array Oper} {rest : List Oper} {o : Oper} {a : Act} {Q : Exit -> Act -> World -> Prop} (hgd : o.guard = none) (t : Nat) (ho : o.op = .load 42 (.tmp t)) (g : Nat) (he : a.eval (.tmp t) = .pointer (some ⟨g, 0, none⟩)) (x : OpV) (hb : w.heap[g]? = some (.cells (opA x) 42 (0, 0)))
    (h : wpList Tryz.prog ops Q rest (a.put o.dst (.agg (opA x))) w) : wpList Tryz.prog ops Q (o :: rest) a w := by
  refine wpList_plain hgd fun K hK => ?_
  unfold Oper.wp execOp
  simp only [ho, he, Sem.run_bind, load42 w g x hb, Result.andThen_ok, Sem.run_pure]
  exact hK _ _ h
theorem RigIn.devPut {w : World} {B : Nat} {c : Nat -> Nat} {q : Plc} {D : Dev} {s : Ls} {nd : Nat} (h : RigIn w B c q D s nd) (q2 : Plc) : RigIn (w.setCell ⟨q.g, 0, none⟩ (.pointer (some ⟨q2.d, 0, none⟩))) B c { q2 with g := q.g, p := q.p, dv := q.dv, wt := q.wt } D s nd /\ Fc c 7 w (w.setCell ⟨q.g, 0, none⟩ (.pointer (some ⟨q2.d, 0, none⟩))) := by
  refine ⟨⟨heap_setCell_same w q.g 0 _ 52 _ h.rig, own_same h.dk fun g hg => ?_, own_same h.wet fun g hg => ?_, h.cg, h.cd, h.cw, h.lo⟩, (Fc.refl c 7 w).setCell q.g 0 (.inr h.cg) _⟩
  . obtain ⟨cg, hcg⟩ := own_block h.dk g hg
    exact heap_setCell_other w ⟨q.g, 0, none⟩ g _ (ne_types hcg h.rig (by decide))
  . obtain ⟨cg, hcg⟩ := own_block h.wet g hg
    exact heap_setCell_other w ⟨q.g, 0, none⟩ g _ (ne_types hcg h.rig (by decide))
theorem DevC.at {w : World} {B : Nat} {c : Nat -> Nat} {q : Plc} {D : Dev} (h : DevC w B c q D) (g : Nat) (p : Rfm) (dv wt : Value) : DevC w B c { q with g := g, p := p, dv := dv, wt := wt } D := ⟨h.inn, h.cd, h.cL, h.cS, h.cE, h.lo⟩
theorem src_first {w : World} {C g cap n m : Nat} {f : Nat -> Int} (h : w.ownsRow C 3 1 (.slice (some ⟨g, 0, none⟩) n cap) n (((List.range n).map f).flatMap encI)) (hm : m <= n) (k : Nat) : Src w (.slice (some ⟨g, 0, none⟩) m k) m (((List.range m).map f).flatMap encI) := by
  refine .inr ⟨_, _, rfl, fun j u hj => ?_⟩
  obtain ⟨h1, rfl⟩ := src_at f m j u hj
  refine h.cells rfl j _ (encI_at _ j _ ?_)
  rw [List.getElem?_map, List.getElem?_range (by omega)]; rfl
theorem RigIn.refPut {w : World} {B : Nat} {c : Nat -> Nat} {q : Plc} {D D' : Dev} {s : Ls} {nd : Nat} {F : Cf} (h : RigIn w B c q D s nd) (hD : OfCf D F) (hD' : OfCf D' F) (p : Rfm) (hl : p.lb = q.p.lb) (hc : p.cap = q.p.cap) : RigIn ((w.setCell ⟨q.g, 1, none⟩ (.pointer (some ⟨p.r, 0, none⟩))).setCell ⟨q.g, 13, none⟩ (.int .i64 0)) B c { q with p := p } D' { s with least := 0 } nd /\ Fc c 7 w ((w.setCell ⟨q.g, 1, none⟩ (.pointer (some ⟨p.r, 0, none⟩))).setCell ⟨q.g, 13, none⟩ (.int .i64 0)) := by
  have e1 := hD'.sz.trans hD.sz.symm
  have e2 := hD'.kp.trans hD.kp.symm
  have e3 := hD'.unit.trans hD.unit.symm
  have e4 := hD'.nl.trans hD.nl.symm
  have e5 := hD'.batch.trans hD.batch.symm
  have hr := heap_setCell_same _ q.g 13 _ 52 (.int .i64 0) (heap_setCell_same w q.g 1 _ 52 (.pointer (some ⟨p.r, 0, none⟩)) h.rig)
  have hk : ∀ {g : Nat} {cur : Array Value} {t : TypeId}, w.heap[g]? = some (.cells cur t (0, 0)) -> t ≠ 52 -> ((w.setCell ⟨q.g, 1, none⟩ (.pointer (some ⟨p.r, 0, none⟩))).setCell ⟨q.g, 13, none⟩ (.int .i64 0)).heap[g]? = w.heap[g]? := fun {g cur t} h1 h2 => by
    rw [heap_setCell_other _ ⟨q.g, 13, none⟩ g _ (ne_types h1 h.rig h2), heap_setCell_other _ ⟨q.g, 1, none⟩ g _ (ne_types h1 h.rig h2)]
  refine ⟨⟨?_, own_same h.dk fun g hg => ?_, own_same h.wet fun g hg => ?_, h.cg, h.cd, h.cw, h.lo⟩, ((Fc.refl c 7 w).setCell q.g 1 (.inr h.cg) _).setCell q.g 13 (.inr h.cg) _⟩
  . show _ = some (Obj.cells (rigC { q with p := p } D' 0) 52 (0, 0))
    rw [hr]
    unfold rigC
    rw [e1, e2, e3, e4, e5]
    show _ = some (Obj.cells #[_, _, _, _, _, _, _, _, _, .slice (some ⟨p.lb, 0, none⟩) D.nl p.cap, _, _, _, _] 52 (0, 0))
    rw [hl, hc]
    rfl
  . obtain ⟨cg, hcg⟩ := own_block h.dk g hg
    exact hk hcg (by decide)
  . obtain ⟨cg, hcg⟩ := own_block h.wet g hg
    exact hk hcg (by decide)
theorem entC_ok (c h : Nat) (S : ByteArray) : EntOk (entC c h S) := fun i k => by
  have h1 := Pl.byt_lt S ((c + 7) / 8 + 2 * k)
  have h2 := Pl.byt_lt S ((c + 7) / 8 + 2 * k + 1)
  unfold entC Pl.wd Pl.bit
  split
  . split <;> omega
  . split
    . split <;> omega
    . omega
def Again (w : World) (B : Nat) (q : Plc) (kb m : Nat) (F : Cf) (nd : Nat) (e : Ending) (w' : World) : Prop :=
  e = .returned (.bool true) /\ ∃ q' c' b' N lat st d s', StB w' B c' q' kb (m + 10) b' F (F.dev N lat st d) s' [keptL (F.dev N lat st d).ent F.c F.h] 0 (fun _ => ⟨#[]⟩) (fun _ => false) nd /\ DevC w' B c' q' (F.dev N lat st d) /\ Sim F.z F.sec nd (F.dev N lat st d) s' [keptL (F.dev N lat st d).ent F.c F.h] 0 d /\ DevOk (F.dev N lat st d) /\ q'.g = q.g /\ Below B w w'
theorem Cf.dev_ok {F : Cf} (hF : CfOk F) (N lat st : Nat) (d : ByteArray) (hl : lat <= 1) (hs : st <= 3) : DevOk (F.dev N lat st d) :=
  ⟨fun i _ => szF_le F.s0 F.s1 F.s2 F.s3 i 60 hF.s0 hF.s1 hF.s2 hF.s3, entC_ok F.c F.h d, hF.c, hF.h, hF.u, hF.b, hF.n, hl, hs, rfl, by have := hF.b.1; exact this, Nat.le_refl _, fun _ => rfl, .nil, fun y hy => by cases hy⟩
theorem Cf.dev_sim {F : Cf} (hF : CfOk F) (N lat st nd : Nat) (d : ByteArray) (s : Ls) (hc : Calm F.z F.sec nd lat st d s) (hr : Rdy F.sec s.dk lat st) (h0 : s.least = 0) (hn : 2 * F.sec <= nd) : Sim F.z F.sec nd (F.dev N lat st d) s [keptL (F.dev N lat st d).ent F.c F.h] 0 d := by
  obtain ⟨h1, h2, _⟩ := hc.dk.st_eq
  exact ⟨(Cf.dev_ok hF N lat st d h1 h2).fl, (fun y hy => by cases hy), hc, hr, rfl, rfl, ⟨0, by omega, Nat.le_refl _, rfl⟩, fun _ => rfl, by rw [h0]; exact Nat.zero_le _, Nat.zero_le _, rfl, rfl, hn⟩
theorem slice_inj {a b n m k l : Nat} (h : Value.slice (some ⟨a, 0, none⟩) n k = .slice (some ⟨b, 0, none⟩) m l) : a = b /\ k = l := by
  simp only [Value.slice.injEq, Option.some.injEq, Addr.mk.injEq, and_true] at h
  exact ⟨h.1, h.2.2⟩
set_option maxHeartbeats 8000000 in
theorem returns_any (w : World) (B : Nat) (c : Nat -> Nat) (q : Plc) (kb m : Nat) (b : Bks) (F : Cf) (D : Dev) (s : Ls) (left : List (List Int)) (safe : Nat) (ys : Nat -> ByteArray) (zs : Nat -> Bool) (nd lat st : Nat) (d : ByteArray) (o : OpV) (h : StB w B c q kb m b F D s left safe ys zs nd) (hF : CfOk F) (hm : m <= 800000) (hnd : 2 * F.sec <= nd /\ nd <= 64) (hcm : Calm F.z F.sec nd lat st d s) (hix : Idx F.c F.h left s.least d) (hls : s.least <= 1000000000) (ho : OpR o) (hll : ∀ l ∈ left, l.length <= 1000) (hlm : left.length <= 1000000) :
    Calls Tryz.prog 42 #[.pointer (some ⟨q.g, 0, none⟩), .agg (opA o), .pointer (some ⟨kb, 0, none⟩)] w (Again w B q kb m F nd) := by
  obtain ⟨hs1, hs3, _⟩ := Cf.sec_le hF
  have hnd0 : 0 < nd := by have := hnd.1; omega
  obtain ⟨X, hX⟩ : ∃ X, X = w.alloc (.cells (opA o) 42) := ⟨_, rfl⟩
  have hXb : Below w.heap.size w X := by rw [hX]; exact bel_alloc (Below.refl _ _) _
  have hXs : X.heap.size = w.heap.size + 1 := by rw [hX]; simp
  have hXg : X.heap[w.heap.size]? = some (.cells (opA o) 42 (0, 0)) := by rw [hX]; exact heap_alloc_new w _
  have hB := h.bk.bk.lo.2
  obtain ⟨cX, hcX⟩ : ∃ cX, cX = nc X.drew B (colN w c 9) := ⟨_, rfl⟩
  have hSX : StB X.drew B cX q kb m b F D s left safe ys zs nd := by rw [hcX]; exact h.below hXb.drew
  have hc9 : cX w.heap.size = 9 := by rw [hcX]; exact nc_at (w := X.drew) hB hXg (by decide) (colN_new w c 9 _ (Nat.le_refl _)) (by decide)
  obtain ⟨gd, dcap, hdv, hgd, hgd7, hdc, r0, r1, r2, r3, r4, r5, r6, r7, r8, r9, r10, r11, r12, r13, rf, hgl⟩ := hSX.cells hnd0
  have HRE := hideF (reopen w X.drew B cX q kb m b F D s left safe ys zs nd lat st gd dcap d o hSX hF (by omega) hnd hcm hix hdv hXg hc9 (hXb.drew.mono hB))
  have HX := hideF hX
  have HXG := hideF hXg
  clear hXg hXb hSX hc9 hcX
  go_enter Tryz.func42, Tryz.ntmps42
  go_upto_region 1 with fail
  rw [<- hX]
  clear hX
  go_cut [7, 8, 9, 10] from 26 to 40 (fun a b' c' d' wx => ∃ q1 ov, a = .pointer (some ⟨q1.d, 0, none⟩) /\ b' = ov /\ c' = .int .i64 0 /\ d' = .bool true /\ ReAt w wx B q kb (m + 5) F D s.least left safe ys zs nd o q1 ov)
  case first =>
    go_region_held3 (fun w' => w'.cell? ⟨q.g, 2, none⟩ = some (.int .i64 (F.s0 : Nat)) /\ w'.cell? ⟨q.g, 3, none⟩ = some (.int .i64 (F.s1 : Nat)) /\ w'.cell? ⟨q.g, 4, none⟩ = some (.int .i64 (F.s2 : Nat)) /\ w'.cell? ⟨q.g, 5, none⟩ = some (.int .i64 (F.s3 : Nat)) /\ w'.cell? ⟨q.g, 6, none⟩ = some (.int .i64 (F.c : Nat)) /\ w'.cell? ⟨q.g, 7, none⟩ = some (.int .i64 (F.h : Nat)) /\ w'.cell? ⟨q.g, 8, none⟩ = some (.int .i64 (F.u : Nat)) /\ w'.cell? ⟨q.g, 9, none⟩ = some (.slice (some ⟨q.p.lb, 0, none⟩) F.n q.p.cap) /\ w'.cell? ⟨q.g, 10, none⟩ = some (.int .i64 (F.b : Nat)) /\ w'.cell? ⟨q.g, 11, none⟩ = some (.slice (some ⟨gd, 0, none⟩) nd dcap)) (go_keep)
      (first
        | (go_at_call 13; refine HRE.out.mono ?_; rintro e w6 ⟨v, rfl, q1, ov, b', c', N, rfl, hre⟩; obtain ⟨gd', dcap', hdv', _, _, _, _, _, f2, f3, f4, f5, f6, f7, f8, f9, f10, f11, _⟩ := hre.sb.cells hnd0; obtain ⟨rfl, rfl⟩ := slice_inj (hdv.symm.trans hdv')))
    go_wp2
    go_meet
    exact ⟨q1, ov, rfl, rfl, rfl, rfl, b', c', N, s, q.wt, lat, st, d, hre, rfl⟩
  case rest =>
    obtain ⟨q1, ov, rfl, rfl, rfl, rfl, b1, c1, N, s1, wt1, lat1, st1, d1, hre, hls1⟩ := hcut
    obtain ⟨A, hA⟩ : ∃ A, A = readyA s1.dk F.sec lat1 st1 := ⟨_, rfl⟩
    have how := hre.ow
    rw [<- hA] at how
    obtain ⟨ao, co, rfl, _⟩ := own_view how
    have z19 : wc.cell? ⟨w.heap.size, 19, none⟩ = some (.int .i64 o.again) := (cell_of_row _ _ _ _ _ _ hre.bx).trans rfl
    have hAl : A.length <= 100 := by
      have := (rdS_bd s1.dk F.sec lat1 st1 hre.cm.dk.st_eq.1 hre.cm.dk.st_eq.2.1 2).2.2
      rw [hA]
      unfold readyA
      split
      . simp
      . rw [List.length_append, List.length_singleton]; omega
    have HRE1 := hideF hre
    have HA := hideF hA
    have HOW := hideF how
    have HLS1 := hideF hls1
    clear hre hA how hls1 r0 r1 r2 r3 r4 r5 r6 r7 r8 r9 r10 r11 r12 r13 rf hdc HRE
    go_upto_region 4 with fail
    go_cut [58] from 51 to 57 (fun t wx => t = .bool (decide (0 <= o.again) && decide (0 < A.length)) /\ wx = wc)
    case first =>
      by_cases hag0 : 0 <= o.again
      . go_wp2
        go_meet
        exact ⟨by simp [hag0], rfl⟩
      . go_wp2
        go_meet
        exact ⟨by rw [decide_eq_false (p := 0 <= o.again) (by omega)]; rfl, rfl⟩
    case rest =>
     obtain ⟨rfl, hwx⟩ := hcut
     subst hwx
     obtain ⟨bb, hbb⟩ : ∃ bb, bb = (decide (0 <= o.again) && decide (0 < A.length)) := ⟨_, rfl⟩
     rw [<- hbb]
     have HBB := hideF hbb
     clear hbb
     go_upto_if 58 with fail
     go_cut [7, 8, 9, 10, 11] from 41 to 97 (fun a b' c' d' e' wx => ∃ q1 ov, a = .pointer (some ⟨q1.d, 0, none⟩) /\ b' = ov /\ c' = .int .i64 0 /\ d' = .bool true /\ ReAt w wx B q kb (m + 10) F D s.least left safe ys zs nd o q1 ov)
     case first =>
      cases bb
      . go_wp2
        go_meet
        exact ⟨q1, _, rfl, rfl, rfl, rfl, b1, c1, N, s1, wt1, lat1, st1, d1, ⟨HRE1.out.sb.more (by omega), HRE1.out.dv, HRE1.out.ow, HRE1.out.co, HRE1.out.cm, HRE1.out.ix, HRE1.out.bx, HRE1.out.cb, HRE1.out.bl⟩, HLS1.out⟩
      . have hz1 : ¬ ((A.length : Int) + 1) = 0 := by omega
        have hag0 : 0 <= o.again := by
          have := HBB.out.symm
          rw [Bool.and_eq_true, decide_eq_true_eq, decide_eq_true_eq] at this
          exact this.1
        obtain ⟨kk, hkk⟩ : ∃ kk : Nat, o.again % ((A.length : Int) + 1) = (kk : Int) := ⟨(o.again % ((A.length : Int) + 1)).toNat, by have := Int.emod_nonneg o.again (show ((A.length : Int) + 1) ≠ 0 by omega); omega⟩
        have hkl : kk <= A.length := by have := Int.emod_lt_of_pos o.again (show (0 : Int) < (A.length : Int) + 1 by omega); omega
        have HKK := hideF hkk
        have HAG0 := hideF hag0
        clear hkk hag0
        go_wp2_with fail
        rw [show o.again.tmod ((A.length : Int) + 1) = (kk : Int) from by rw [Int.tmod_eq_emod_of_nonneg HAG0.out]; exact HKK.out]
        obtain ⟨hchk, hlose, _⟩ := HRE1.out.cm.ready hs1 hnd.1
        rw [<- HA.out] at hchk hlose
        have hML := hlose kk hkl F.c F.h left HRE1.out.ix
        refine (acts_any wc B c1 { q with wt := wt1 } D s1 nd kk (.slice ao A.length co) (.slice none 0 0) B 0 A [] HRE1.out.sb.rg ⟨hnd0, hnd.2⟩ HOW.out (World.ownsRow_nil _ _ _ _) (fun g hg => by rw [HRE1.out.co g hg]; decide) (fun g hg => by simp [Value.ownBlock] at hg) hchk (by omega) (by simp) HRE1.out.cm.wet (by rw [HLS1.out]; exact hls) (by simp)).mono ?_
        rintro e w2 ⟨rfl, v2, c2, hR2, hag2, hf2⟩
        have hbx2 := (hf2.keep _ _ _ HRE1.out.bx (.inl (by decide)) (by rw [HRE1.out.cb]; decide)).trans HRE1.out.bx
        have hcb2 := (hag2 _ (lt_of_block HRE1.out.bx)).trans HRE1.out.cb
        have hbk2 := HRE1.out.sb.bk.frame hf2 hag2 (by decide)
        have hrf2 := HRE1.out.sb.rf.frame hf2 hag2 (by decide) (by decide) (by decide)
        have hbl2 := HRE1.out.bl.trans (hf2.toBelow HRE1.out.sb.nr (by decide) HRE1.out.sb.bk.bk.lo.2)
        have hle2 : (runL kk [] A s1).least = s1.least := runL_least0 hchk rfl kk s1
        have hwl2 : (runL kk [] A s1).wet.length <= 1000000 := by have := runL_wet kk [] A s1; rw [HRE1.out.cm.wet, List.length_nil] at this; omega
        have HLO := hideF (lost_any w2 B c2 { q with wt := v2 } D (runL kk [] A s1) nd o hR2 ⟨hnd0, hnd.2⟩ hML.wet hML.size hwl2 ho)
        have HBX2 := hideF hbx2
        have HCB2 := hideF hcb2
        have HBK2 := hideF hbk2
        have HRF2 := hideF hrf2
        have HBL2 := hideF hbl2
        have HLE2 := hideF hle2
        have HML := hideF hML
        have HZ2 : Hid (∀ g, g < B -> c2 g = 0) := fun g hg => (hag2 g (by have := HRE1.out.sb.bk.bk.lo.2; omega)).trans ((HRE1.out.sb.nr.zero g).2 hg)
        clear hchk hlose hML hR2 hag2 hf2 hbx2 hcb2 hbk2 hrf2 hbl2 hle2 hwl2 z19
        go_wp2_with (refine wpList_load42 rfl 4 rfl w.heap.size rfl o HBX2.out ?_)
        refine HLO.out.mono ?_
        rintro e w3 ⟨rfl, f3, c3, hL3, hfz3, hR3, hag3, hf3⟩
        have hbx3 := (hf3.keep _ _ _ HBX2.out (.inl (by decide)) (by rw [HCB2.out]; decide)).trans HBX2.out
        have hcb3 := (hag3 _ (lt_of_block HBX2.out)).trans HCB2.out
        have hS3 : StB w3 B (nc w3 B c3) { q with wt := .slice none 0 0 } kb (m + 5) b1 F D { dk := f3, wet := [], least := (runL kk [] A s1).least } left safe ys zs nd := StB.norm (HBK2.out.frame hf3 hag3 (by decide)) (HRF2.out.frame hf3 hag3 (by decide) (by decide) (by decide)) hR3 HRE1.out.sb.lb HRE1.out.sb.cf
        have hbl3 : Below B w w3 := by
          refine HBL2.out.trans ⟨hf3.os, hf3.tape, hf3.output, hf3.size, fun g hg => ?_⟩
          have hB2 := HBK2.out.bk.lo.2
          exact hf3.low g (by omega) (HZ2.out g hg) (by decide)
        obtain ⟨lat3, st3, d3, hdk3, hix3⟩ := HML.out.lose f3 hL3
        rw [HLE2.out] at hix3 hS3
        have hcm3 : Calm F.z F.sec nd lat3 st3 d3 { dk := f3, wet := [], least := s1.least } := ⟨hfz3, rfl, hdk3⟩
        have hBl3 := hS3.bk.bk.lo.2
        have hcb4 : nc w3 B c3 w.heap.size = 9 := nc_at hB hbx3 (by decide) hcb3 (by decide)
        have hS4 := hS3.below (Below.refl _ _).drew
        have hcb5 : nc w3.drew B (colN w3 (nc w3 B c3) 9) w.heap.size = 9 := nc_at (w := w3.drew) hB hbx3 (by decide) ((colN_agr w3 _ 9 _ (lt_of_block hbx3)).trans hcb4) (by decide)
        obtain ⟨gd3, dcap3, hdv3, hgd3, hgd73, _, y0, y1, y2, y3, y4, y5, y6, y7, y8, y9, y10, y11, y12, y13, yf, hyl⟩ := hS4.cells hnd0
        obtain ⟨rfl, rfl⟩ := slice_inj (hdv.symm.trans hdv3)
        have HRE3 := hideF (reopen w w3.drew B _ _ kb (m + 5) b1 F D _ left safe ys zs nd lat3 st3 gd dcap d3 o hS4 hF (by omega) hnd hcm3 hix3 hdv hbx3 hcb5 (hbl3.trans ((Below.refl w3.heap.size w3).drew.mono hBl3)))
        clear hbx3 hcb3 hS3 hbl3 hdk3 hix3 hcm3 hcb4 hS4 hcb5 hL3 hfz3 hR3 hag3 hf3 HLO
        go_wp2_with fail
        go_region_held3 (fun w' => w'.cell? ⟨q.g, 2, none⟩ = some (.int .i64 (F.s0 : Nat)) /\ w'.cell? ⟨q.g, 3, none⟩ = some (.int .i64 (F.s1 : Nat)) /\ w'.cell? ⟨q.g, 4, none⟩ = some (.int .i64 (F.s2 : Nat)) /\ w'.cell? ⟨q.g, 5, none⟩ = some (.int .i64 (F.s3 : Nat)) /\ w'.cell? ⟨q.g, 6, none⟩ = some (.int .i64 (F.c : Nat)) /\ w'.cell? ⟨q.g, 7, none⟩ = some (.int .i64 (F.h : Nat)) /\ w'.cell? ⟨q.g, 8, none⟩ = some (.int .i64 (F.u : Nat)) /\ w'.cell? ⟨q.g, 9, none⟩ = some (.slice (some ⟨q.p.lb, 0, none⟩) F.n q.p.cap) /\ w'.cell? ⟨q.g, 10, none⟩ = some (.int .i64 (F.b : Nat)) /\ w'.cell? ⟨q.g, 11, none⟩ = some (.slice (some ⟨gd, 0, none⟩) nd dcap)) (go_keep)
          (first
            | (go_at_call 13; refine HRE3.out.mono ?_; rintro e w6 ⟨v, rfl, q5, ov5, b5, c5, N5, rfl, hre5⟩; obtain ⟨gd', dcap', hdv', _, _, _, _, _, f2, f3, f4, f5, f6, f7, f8, f9, f10, f11, _⟩ := hre5.sb.cells hnd0; obtain ⟨rfl, rfl⟩ := slice_inj (hdv.symm.trans hdv')))
        have HRE5 := hideF hre5
        clear hre5
        go_wp2
        go_meet
        exact ⟨q5, ov5, rfl, rfl, rfl, rfl, b5, c5, N5, _, _, lat3, st3, d3, HRE5.out, HLS1.out⟩
     case rest =>
      obtain ⟨q2, ov2, rfl, rfl, rfl, rfl, b2, c2, N2, s2, wt2, lat2, st2, d2, hre2, hls2⟩ := hcut
      clear HRE1 HA HOW HLS1 HBB z19
      obtain ⟨A2, hA2⟩ : ∃ A, A = readyA s2.dk F.sec lat2 st2 := ⟨_, rfl⟩
      have how2 := hre2.ow
      rw [<- hA2] at how2
      obtain ⟨ao2, co2, rfl, _⟩ := own_view how2
      have hA2l : A2.length <= 100 := by
        have := (rdS_bd s2.dk F.sec lat2 st2 hre2.cm.dk.st_eq.1 hre2.cm.dk.st_eq.2.1 2).2.2
        rw [hA2]
        unfold readyA
        split
        . simp
        . rw [List.length_append, List.length_singleton]; omega
      obtain ⟨_, _, _, _, _, _, e0, _, _, _, _, _, _, _, _, _, _, _, _, _, ef, hgl2⟩ := hre2.sb.cells hnd0
      obtain ⟨q3, hq3⟩ : ∃ q3 : Plc, q3 = { q2 with g := q.g, p := q.p, dv := q.dv, wt := wt2 } := ⟨_, rfl⟩
      obtain ⟨hR1, hF1⟩ := hre2.sb.rg.devPut q2
      obtain ⟨V, hV⟩ : ∃ V, V = wc.setCell ⟨q.g, 0, none⟩ (.pointer (some ⟨q2.d, 0, none⟩)) := ⟨_, rfl⟩
      have hR1' : RigIn V B c2 q3 D s2 nd := by rw [hV, hq3]; exact hR1
      have hF1' : Fc c2 7 wc V := by rw [hV]; exact hF1
      obtain ⟨hchk, hlose, hrl, hrc, hrd⟩ := hre2.cm.ready hs1 hnd.1
      rw [<- hA2] at hchk hlose hrl hrc hrd
      have hq3g : q3.g = q.g := by rw [hq3]
      have HAC := hideF (acts_any V B c2 q3 D s2 nd A2.length (.slice ao2 A2.length co2) (.slice none 0 0) B 0 A2 [] hR1' ⟨hnd0, hnd.2⟩ (hF1'.own how2 (by decide) (fun g hg => by rw [hre2.co g hg]; decide)) (World.ownsRow_nil _ _ _ _) (fun g hg => by rw [hre2.co g hg]; decide) (fun g hg => by simp [Value.ownBlock] at hg) hchk (by omega) (by simp) hre2.cm.wet (by rw [hls2]; exact hls) (by simp))
      rw [hq3g] at HAC
      have HRE2 := hideF hre2
      have HF1 := hideF hF1'
      have HV := hideF hV
      have HRL := hideF hrl
      have HRC := hideF hrc
      have HRD := hideF hrd
      have HLS2 := hideF hls2
      have HQ3 := hideF hq3
      clear hre2 how2 hA2 hR1 hF1 hR1' hF1' hchk hlose hrl hrc hrd hls2 hq3 hq3g
      go_wp2_with fail
      rw [<- hV]
      clear hV e0 ef
      refine HAC.out.mono ?_
      rintro e w4 ⟨rfl, v4, c4, hR4, hag4, hf4⟩
      have hVs : V.heap.size = wc.heap.size := by have h1 := HF1.out.size; rw [HV.out]; simp
      have hF4 : Fc c2 7 wc w4 := HF1.out.trans hf4 (Agr.refl wc c2)
      have hA4 : Agr wc c2 c4 := fun g hg => hag4 g (by omega)
      obtain ⟨D1, hD1⟩ : ∃ D1, D1 = F.dev N2 lat2 st2 d2 := ⟨_, rfl⟩
      obtain ⟨q4, hq4⟩ : ∃ q4 : Plc, q4 = { q3 with wt := v4 } := ⟨_, rfl⟩
      have hq4' : q4 = { q2 with g := q.g, p := q.p, dv := q.dv, wt := v4 } := by rw [hq4, HQ3.out]
      have hS4 : StB w4 B (nc w4 B c4) q4 kb (m + 10) b2 F D (runL A2.length [] A2 s2) left safe ys zs nd := StB.norm (HRE2.out.sb.bk.frame hF4 hA4 (by decide)) (by rw [hq4']; exact HRE2.out.sb.rf.frame hF4 hA4 (by decide) (by decide) (by decide)) (by rw [hq4']; have := hR4; rw [HQ3.out] at this; exact this) (by rw [hq4']; exact HRE2.out.sb.lb) HRE2.out.sb.cf
      have hDv4 : DevC w4 B (nc w4 B c4) q4 D1 := by rw [hq4', hD1]; exact ((HRE2.out.dv.at q.g q.p q.dv v4).frame HRE2.out.sb.nr hF4 hA4 (by decide)).nc
      have hbl4 : Below B w w4 := HRE2.out.bl.trans (hF4.toBelow HRE2.out.sb.nr (by decide) HRE2.out.sb.bk.bk.lo.2)
      have hq4g : q4.g = q.g := by rw [hq4']
      have hq4d : q4.d = q2.d := by rw [hq4']
      have hz0 : D1.sz 0 = F.s0 := by rw [hD1]; rfl
      have hz2 : D1.sz 2 = F.s2 := by rw [hD1]; rfl
      have hl0 := look_any q4.d q4.L q4.S 0 q4.E q4.wv D1 ((List.range F.s0).map (D1.ent 0)) w4 hDv4.inn (by omega) (by rw [hz0]; simp) (by rw [hz0]; have := hF.s0; omega) (fun j x hj => by rw [List.getElem?_map] at hj; obtain ⟨y, h2, rfl⟩ := Option.map_eq_some_iff.1 hj; obtain ⟨h3, h4⟩ := List.getElem?_eq_some_iff.1 h2; simp at h3 h4; rw [h4])
      rw [hq4d, hz0] at hl0
      have HL0 := hideF hl0
      have HS4 := hideF hS4
      have HDV4 := hideF hDv4
      have HBL4 := hideF hbl4
      have HD1 := hideF hD1
      have HQ4 : Hid (q4 = { q2 with g := q.g, p := q.p, dv := q.dv, wt := v4 }) := hq4'
      have hl2 : ∀ w5, Below w4.heap.size w4 w5 -> Calls Tryz.prog 14 #[.pointer (some ⟨q2.d, 0, none⟩), .int .i64 2] w5 fun e w' => ∃ v, e = .returned (.tuple #[v, .int .i64 0]) /\ w'.ownsRow w5.heap.size 3 1 v F.s2 (((List.range F.s2).map (D1.ent 2)).flatMap encI) /\ Below w5.heap.size w5 w' := fun w5 hb5 => by
        have hdi := (hDv4.frame hS4.nr (Fc.of_below (k := 9) hb5) (Agr.refl _ _) (by decide)).inn
        have := look_any q4.d q4.L q4.S 2 q4.E q4.wv D1 ((List.range F.s2).map (D1.ent 2)) w5 hdi (by omega) (by rw [hz2]; simp) (by rw [hz2]; have := hF.s2; omega) (fun j x hj => by rw [List.getElem?_map] at hj; obtain ⟨y, h2, rfl⟩ := Option.map_eq_some_iff.1 hj; obtain ⟨h3, h4⟩ := List.getElem?_eq_some_iff.1 h2; simp at h3 h4; rw [h4])
        rw [hq4d, hz2] at this
        exact this
      have HL2 := hideF hl2
      obtain ⟨_, _, _, _, _, _, k0, k1, k2, k3, k4, k5, k6, k7, k8, k9, k10, k11, k12, k13, kf, hgl4⟩ := hS4.cells hnd0
      rw [hq4g] at k2 k4 k6 k7 hgl4
      clear hR4 hag4 hf4 hF4 hA4 hS4 hDv4 hbl4 hD1 hq4 hq4' hq4g hq4d hz0 hz2 hl0 hl2 k0 k1 k3 k5 k8 k9 k10 k11 k12 k13 kf HAC
      go_wp2_with fail
      refine HL0.out.mono ?_
      rintro e w5 ⟨v5, rfl, ho5, hb5⟩
      obtain ⟨a5, p5, rfl, _⟩ := own_view ho5
      have HO5 := hideF ho5
      have HB5 := hideF hb5
      clear ho5 hb5
      go_wp2_with fail
      refine (HL2.out w5 HB5.out).mono ?_
      rintro e w6 ⟨v6, rfl, ho6, hb6⟩
      obtain ⟨a6, p6, rfl, _⟩ := own_view ho6
      have HO6 := hideF ho6
      have HB6 := hideF (bel_then HB5.out hb6)
      have HO5' := hideF (ownsRow_below HO5.out hb6)
      have j2 := ((bcell HB6.out).1 _ _ hgl4).trans k2
      have j4 := ((bcell HB6.out).1 _ _ hgl4).trans k4
      have j6 := ((bcell HB6.out).1 _ _ hgl4).trans k6
      have j7 := ((bcell HB6.out).1 _ _ hgl4).trans k7
      have hs6 := HB6.out.size
      clear ho6 hb6 k2 k4 k6 k7 HO5 HL0 HL2
      obtain ⟨i3, hi3, hy0, hy1, hy2⟩ := info_parts Tryz.infoEI
      have hFc := hF.c
      have hFh := hF.h
      have hF0 := hF.s0
      have hF2 := hF.s2
      have hcI : (F.c : Int) <= (F.s0 : Int) := by omega
      have hhI : (F.h : Int) <= (F.s2 : Int) := by omega
      go_upto_region 19 with fail
      go_cut [13, 17] from 107 to 157 (fun cx kv wx => cx = .slice a5 F.s0 p5 /\ wx.ownsRow w6.heap.size 3 1 kv F.c (((List.range F.c).map (D1.ent 0)).flatMap encI) /\ Below w6.heap.size w6 wx)
      case first =>
        rcases HO5'.out.2 with ⟨e1, e2⟩ | ⟨g5, cap5, cur5, e1, hb5', hg5, hn5, _, _, _⟩
        . have hs0 : F.s0 = 0 := e2
          have hc0 : F.c = 0 := by omega
          have e3 : a5 = none /\ p5 = 0 := by simp only [Value.slice.injEq] at e1; exact ⟨e1.1, e1.2.2⟩
          obtain ⟨rfl, rfl⟩ := e3
          rw [hc0] at j6
          have HC0 := hideF hc0
          have HS : Hid (Src w6 (.slice none 0 0) 0 (((List.range 0).map (D1.ent 0)).flatMap encI)) := .inl ⟨rfl, rfl, rfl⟩
          clear hc0 e1 e2
          go_wp2_with (at_builtin; go_must (refine wpList_append_srck rfl (.tmp 149) (.tmp 156) 28 rfl w6.heap.size 3 i3 _ 1 8 Tryz.underlying28 hi3 hy0 hy1 hy2 rfl (by decide) (.slice none 0 0) 0 [] rfl (World.ownsRow_nil _ _ _ _) _ 0 _ rfl HS.out rfl (by simp) (by unfold maxLen; omega) (by omega) (Nat.le_refl _) ?_; intro kv wk hownk hgrowk _))
          go_meet
          rw [HC0.out]
          exact ⟨by rw [hs0], hownk, (Below.refl _ _).grown hgrowk (Nat.le_refl _) (fun k hk => by simp [Value.ownBlock] at hk)⟩
        . have e3 : a5 = some ⟨g5, 0, none⟩ /\ p5 = cap5 := by simp only [Value.slice.injEq, true_and] at e1; exact e1
          obtain ⟨rfl, rfl⟩ := e3
          have HS := fun k => hideF (src_first HO5'.out hFc k)
          have hcp : (F.c : Int) <= (p5 : Int) := by omega
          clear e1 hg5
          go_wp2_with (at_builtin; go_must (refine wpList_append_srck rfl (.tmp 149) (.tmp 156) 28 rfl w6.heap.size 3 i3 _ 1 8 Tryz.underlying28 hi3 hy0 hy1 hy2 rfl (by decide) (.slice none 0 0) 0 [] rfl (World.ownsRow_nil _ _ _ _) _ F.c _ rfl (HS _).out (src_len _ _) (encI_one _) (by unfold maxLen; omega) (by omega) (Nat.le_refl _) ?_; intro kv wk hownk hgrowk _))
          go_meet
          rw [Nat.zero_add, List.nil_append] at hownk
          exact ⟨rfl, hownk, (Below.refl _ _).grown hgrowk (Nat.le_refl _) (fun k hk => by simp [Value.ownBlock] at hk)⟩
      case rest =>
        obtain ⟨rfl, hok7, hb7⟩ := hcut
        have HOK7 := hideF hok7
        have HB7 := hideF hb7
        have HO6' := hideF (ownsRow_below HO6.out hb7)
        have l7 := ((bcell hb7).1 _ _ (show q.g < w6.heap.size by omega)).trans j7
        have hs7 := hb7.size
        clear hok7 hb7 j2 j4 j6 j7
        go_upto_region 20 with fail
        go_cut [15, 17] from 107 to 166 (fun cx kv wx => cx = .slice a6 F.s2 p6 /\ wx.ownsRow w6.heap.size 3 1 kv (F.c + F.h) ((keptL D1.ent F.c F.h).flatMap encI) /\ Below w6.heap.size w6 wx)
        case first =>
          rcases HO6'.out.2 with ⟨e1, e2⟩ | ⟨g5, cap5, cur5, e1, hb5', hg5, hn5, _, _, _⟩
          . have hs0 : F.s2 = 0 := e2
            have hc0 : F.h = 0 := by omega
            have e3 : a6 = none /\ p6 = 0 := by simp only [Value.slice.injEq] at e1; exact ⟨e1.1, e1.2.2⟩
            obtain ⟨rfl, rfl⟩ := e3
            rw [hc0] at l7
            have HC0 := hideF hc0
            have HS : Hid (Src wc (.slice none 0 0) 0 (((List.range 0).map (D1.ent 2)).flatMap encI)) := .inl ⟨rfl, rfl, rfl⟩
            clear hc0 e1 e2
            go_wp2_with (at_builtin; go_must (refine wpList_append_srck rfl (.tmp 158) (.tmp 165) 28 rfl w6.heap.size 3 i3 _ 1 8 Tryz.underlying28 hi3 hy0 hy1 hy2 rfl (by decide) u17 F.c _ rfl HOK7.out _ 0 _ rfl HS.out rfl (by simp) (by unfold maxLen; omega) (by omega) (by omega) ?_; intro kv wk hownk hgrowk _))
            go_meet
            rw [HC0.out]
            refine ⟨by rw [hs0], ?_, HB7.out.grown hgrowk (by omega) (fun k hk => (HOK7.out.lt k hk).1)⟩
            unfold keptL
            rw [List.flatMap_append]
            exact hownk
          . have e3 : a6 = some ⟨g5, 0, none⟩ /\ p6 = cap5 := by simp only [Value.slice.injEq, true_and] at e1; exact e1
            obtain ⟨rfl, rfl⟩ := e3
            have HS := fun k => hideF (src_first HO6'.out hFh k)
            have hcp : (F.h : Int) <= (p6 : Int) := by omega
            clear e1 hg5
            go_wp2_with (at_builtin; go_must (refine wpList_append_srck rfl (.tmp 158) (.tmp 165) 28 rfl w6.heap.size 3 i3 _ 1 8 Tryz.underlying28 hi3 hy0 hy1 hy2 rfl (by decide) u17 F.c _ rfl HOK7.out _ F.h _ rfl (HS _).out (src_len _ _) (encI_one _) (by unfold maxLen; omega) (by omega) (by omega) ?_; intro kv wk hownk hgrowk _))
            go_meet
            refine ⟨rfl, ?_, HB7.out.grown hgrowk (by omega) (fun k hk => (HOK7.out.lt k hk).1)⟩
            unfold keptL
            rw [List.flatMap_append]
            exact hownk
        case rest =>
          obtain ⟨w8, rfl⟩ : ∃ w8, w8 = wc := ⟨_, rfl⟩
          obtain ⟨rfl, hok8, hb8⟩ := hcut
          have hb48 := bel_then HB6.out hb8
          obtain ⟨c8, hc8⟩ : ∃ c8, c8 = nc w8 B (colN w4 (nc w4 B c4) 9) := ⟨_, rfl⟩
          have hS8 : StB w8 B c8 q4 kb (m + 10) b2 F D (runL A2.length [] A2 s2) left safe ys zs nd := by rw [hc8]; exact HS4.out.below hb48
          have hD8 : DevC w8 B c8 q4 D1 := by rw [hc8]; exact (HDV4.out.frame HS4.out.nr (Fc.of_below (k := 9) hb48) (colN_agr w4 _ 9) (by decide)).nc
          have hB4 : B <= w4.heap.size := HS4.out.bk.bk.lo.2
          have hbl8 : Below B w w8 := HBL4.out.trans (hb48.mono hB4)
          obtain ⟨K, hK⟩ : ∃ K, K = keptL D1.ent F.c F.h := ⟨_, rfl⟩
          have hKl : K.length = F.c + F.h := by rw [hK, keptL_len]
          rw [<- hK, <- hKl] at hok8
          obtain ⟨ak, pk, rfl, _⟩ := own_view hok8
          have hidx : ∃ j, s.least <= j /\ left[j]? = some K := by
            obtain ⟨j, h1, h2⟩ := HRE2.out.ix
            rw [HLS2.out] at h1
            refine ⟨j, h1, ?_⟩
            rw [h2, hK, HD1.out]; rfl
          have hlst : (runL A2.length [] A2 s2).least = s.least := HRL.out.trans HLS2.out
          obtain ⟨_, _, _, _, _, _, k0, k1, k2, k3, k4, k5, k6, k7, k8, k9, k10, k11, k12, k13, kf, hgl8⟩ := hS8.cells hnd0
          rw [hlst] at k13
          obtain ⟨_, _, _, _, _, _, _, _, _, m17, _, _, hrl8⟩ := hS8.rf.cells
          obtain ⟨al, kl, hal, _⟩ := own_view hS8.rf.lf
          rw [hal] at m17
          rw [HQ4.out] at k1 k13 m17 hgl8 hrl8
          have HS8 := hideF hS8
          have HD8 := hideF hD8
          have HBL8 := hideF hbl8
          have HOK8 := hideF hok8
          have HK := hideF hK
          have HKL := hideF hKl
          have HIDX := hideF hidx
          have HC8 := hideF hc8
          have HB48 := hideF hb48
          have HAL := hideF hal
          have HB68 := hideF hb8
          clear hS8 hD8 hbl8 hok8 hK hKl hidx hc8 hb48 hb8 k0 k2 k3 k4 k5 k6 k7 k8 k9 k10 k11 k12 kf hal hlst
          have m1 : w8.cell? ⟨q.g, 1, none⟩ = some (.pointer (some ⟨q.p.r, 0, none⟩)) := k1
          have m13 : w8.cell? ⟨q.g, 13, none⟩ = some (.int .i64 (s.least : Nat)) := k13
          have m17' : w8.cell? ⟨q.p.r, 17, none⟩ = some (.slice al left.length kl) := m17
          have hgl8' : q.g < w8.heap.size := hgl8
          have hrl8' : q.p.r < w8.heap.size := hrl8
          clear k1 k13 m17 hgl8 hrl8
          go_upto_block 0 with fail
          go_cut [18, 19] from 167 to 198 (fun fv kv wx => fv = .bool true /\ Below w8.heap.size w8 wx)
          case first =>
            go_wp2_with fail
            go_loopw [18, 19] (fun fv kv wr => ∃ (fb : Bool) (kk : Nat), fv = .bool fb /\ kv = .int .i64 (kk : Nat) /\ Below w8.heap.size w8 wr /\ kk <= 1000000001 /\ (fb = false -> ∀ i, s.least <= i -> i < kk -> left[i]? ≠ some K)) (fun _ kv _ => left.length - (intOf kv).toNat)
            case atStart => exact ⟨false, s.least, rfl, rfl, Below.refl _ _, by omega, fun _ i h1 h2 => by omega⟩
            case round =>
              obtain ⟨fb, kk, rfl, rfl, hbr, hk9, hfb⟩ := hrel
              have n1 := ((bcell hbr).1 _ _ hgl8').trans m1
              have n17 := ((bcell hbr).1 _ _ hrl8').trans m17'
              have HBR := hideF hbr
              have HFB := hideF hfb
              have hsr := hbr.size
              cases fb
              . by_cases hkl : kk < left.length
                . obtain ⟨l, hl⟩ : ∃ l, left[kk]? = some l := ⟨_, List.getElem?_eq_getElem hkl⟩
                  obtain ⟨vl, hvs, hol, _⟩ := HS8.out.rf.lfs kk l hl
                  have hlf := HS8.out.rf.lf
                  rw [HAL.out] at hlf
                  obtain ⟨gl, cl9, e9, _, hgl9, _⟩ := own_some hlf (by omega)
                  simp only [Value.slice.injEq, true_and] at e9
                  obtain ⟨rfl, rfl⟩ := e9
                  have hcv : w8.cell? ⟨gl, kk, none⟩ = some vl := by
                    have := hlf.cells (g := gl) rfl kk vl hvs
                    have e : (⟨gl, 0, none⟩ : Addr).add kk = ⟨gl, kk, none⟩ := by by_cases h0 : kk = 0 <;> simp [Addr.add, h0]
                    rwa [e] at this
                  obtain ⟨avl, kvl, rfl, _⟩ := own_view hol
                  have ncv := ((bcell hbr).1 _ _ hgl9).trans hcv
                  have HSI := hideF (sameInts_any K l _ _ w6.heap.size B wr (ownsRow_below HOK8.out hbr) (ownsRow_below hol hbr) (by have := HKL.out; omega) (by have := hll l (List.mem_of_getElem? hl); omega))
                  have HL := hideF hl
                  have HWK : Hid (wrap64 ((kk : Int) + 1) = ((kk + 1 : Nat) : Int)) := by show _ = _; simp only [wrap64]; omega
                  have HKL9 := hideF hkl
                  have hkI : (kk : Int) < (left.length : Int) := by omega
                  clear hbr hfb hl hvs hol hlf hcv
                  go_wp2_with fail
                  refine HSI.out.mono ?_
                  rintro e w9 ⟨rfl, hb9⟩
                  have HB9 := hideF (bel_then HBR.out hb9)
                  clear hb9
                  go_wp2
                  go_roundw
                  case rel =>
                    refine ⟨decide (K = l), kk + 1, rfl, by first | rw [HWK.out] | rfl, HB9.out, by have := HKL9.out; omega, fun he i h1 h2 => ?_⟩
                    by_cases e : i = kk
                    . subst e
                      rw [HL.out]
                      intro e2
                      have : l = K := by simpa using e2
                      rw [this] at he
                      simp at he
                    . exact HFB.out (by first | rfl | trivial) i h1 (by omega)
                  case measure => have := HKL9.out; first | (rw [HWK.out]; simp only [intOf]; omega) | (simp only [intOf]; omega)
                . exfalso
                  obtain ⟨j, h1, h2⟩ := HIDX.out
                  have := (List.getElem?_eq_some_iff.1 h2).1
                  exact hfb rfl j h1 (by omega) h2
              . clear hbr hfb
                by_cases hkl : kk < left.length
                . go_wp2
                  go_meet
                  exact ⟨rfl, HBR.out⟩
                . go_wp2
                  go_meet
                  exact ⟨rfl, HBR.out⟩
          case rest =>
            obtain ⟨rfl, hb9⟩ := hcut
            obtain ⟨w9, rfl⟩ : ∃ w9, w9 = wc := ⟨_, rfl⟩
            obtain ⟨c9, hc9⟩ : ∃ c9, c9 = nc w9 B (colN w8 c8 9) := ⟨_, rfl⟩
            have hS9 : StB w9 B c9 q4 kb (m + 10) b2 F D (runL A2.length [] A2 s2) left safe ys zs nd := by rw [hc9]; exact HS8.out.below hb9
            have hD9 : DevC w9 B c9 q4 D1 := by rw [hc9]; exact (HD8.out.frame HS8.out.nr (Fc.of_below (k := 9) hb9) (colN_agr w8 _ 9) (by decide)).nc
            have hB8 : B <= w8.heap.size := HS8.out.bk.bk.lo.2
            have hbl9 : Below B w w9 := HBL8.out.trans (hb9.mono hB8)
            have hB9 : B <= w9.heap.size := hS9.bk.bk.lo.2
            obtain ⟨_, _, _, _, _, _, k0, k1, k2, k3, k4, k5, k6, k7, k8, k9, k10, k11, k12, k13, kf, hgl9⟩ := hS9.cells hnd0
            rw [HQ4.out] at k1 k2 k3 k4 k5 k6 k7 k8 k9 k10 kf hgl9
            have hof1 : OfCf D1 F := by rw [HD1.out]; exact Cf.dev_of F N2 lat2 st2 d2
            have hpl : q4.p = q.p := by rw [HQ4.out]
            have hcf9 : (.agg (cfgA D1 q.p.lb q.p.cap) : Value) = .agg #[.int .i64 (F.s0 : Nat), .int .i64 (F.s1 : Nat), .int .i64 (F.s2 : Nat), .int .i64 (F.s3 : Nat), .int .i64 (F.c : Nat), .int .i64 (F.h : Nat), .int .i64 (F.u : Nat), .slice (some ⟨q.p.lb, 0, none⟩) F.n q.p.cap, .int .i64 (F.b : Nat)] := by rw [HD1.out]; rfl
            have hrfl := hS9.rf
            rw [hpl] at hrfl
            have hkp0 : D1.kp 0 = F.c := by rw [HD1.out]; rfl
            have hkp2 : D1.kp 2 = F.h := by rw [HD1.out]; rfl
            have hent : ∀ i k, i < 4 -> D1.ent i k = entK (D1.kp 0) K i k := fun i k _ => by
              rw [hkp0, HK.out, HD1.out]
              exact (entK_keptL F.c F.h d2 i k).symm
            have HRO := hideF (ropen_any D1 q.p.lb q.p.cap B w6.heap.size c9 (.slice ak K.length pk) K w9 (fun i hi => by rw [HD1.out]; exact szF_le F.s0 F.s1 F.s2 F.s3 i 60 hF.s0 hF.s1 hF.s2 hF.s3) (by rw [HD1.out]; exact hF.c) (by rw [HD1.out]; exact hF.h) (by rw [HD1.out]; exact hF.n.2) (by rw [hkp0, hkp2, HKL.out]; exact Nat.le_refl _) (ownsRow_below HOK8.out hb9) hent hrfl.lnb (fun i hi => by rw [hrfl.lns i (by rw [hS9.cf.nl]; rw [HD1.out] at hi; exact hi), hS9.cf.kind, HD1.out]; rfl) hrfl.cb hB9 (by rw [HD1.out]; rfl) (by rw [HD1.out]; rfl))
            rw [hcf9] at HRO
            have HS9 := hideF hS9
            have HD9 := hideF hD9
            have HBL9 := hideF hbl9
            have HOF1 := hideF hof1
            have HPL := hideF hpl
            have k1' : w9.cell? ⟨q.g, 1, none⟩ = some (.pointer (some ⟨q.p.r, 0, none⟩)) := k1
            have r13' : w9.cell? ⟨q.g, 13, none⟩ = some (.int .i64 ((runL A2.length [] A2 s2).least : Nat)) := by have := k13; rw [HQ4.out] at this; exact this
            clear hS9 hD9 hbl9 hof1 hpl hrfl hent hcf9 hb9 hc9 k0 k1 k11 k12 k13 m1 m13 m17'
            go_wp2_with fail
            refine HRO.out.mono ?_
            rintro e w10 ⟨p, c10, rfl, hRp, hag10, hb10, hpl, hpc, hpr⟩
            have hs10 := hb10.size
            have hRg10 : RigIn w10 B c10 q4 D (runL A2.length [] A2 s2) nd := HS9.out.rg.frame (k := 9) (Fc.of_below hb10) hag10 (by decide)
            obtain ⟨hR11, hf11⟩ := hRg10.refPut HS9.out.cf HOF1.out p (by rw [HPL.out]; exact hpl) (by rw [HPL.out]; exact hpc)
            obtain ⟨W11, hW11⟩ : ∃ W11, W11 = (w10.setCell ⟨q.g, 1, none⟩ (.pointer (some ⟨p.r, 0, none⟩))).setCell ⟨q.g, 13, none⟩ (.int .i64 0) := ⟨_, rfl⟩
            have eg : q4.g = q.g := by rw [HQ4.out]
            have hW11' : W11 = (w10.setCell ⟨q4.g, 1, none⟩ (.pointer (some ⟨p.r, 0, none⟩))).setCell ⟨q4.g, 13, none⟩ (.int .i64 0) := by rw [hW11, eg]
            rw [<- hW11'] at hR11 hf11
            clear hW11'
            have hfc : Fc c9 7 w9 W11 := (Fc.of_below hb10).trans hf11 hag10
            have hS11 : StB W11 B (nc W11 B c10) { q4 with p := p } kb (m + 10) b2 F D1 { (runL A2.length [] A2 s2) with least := 0 } [keptL D1.ent (D1.kp 0) (D1.kp 2)] 0 (fun _ => ⟨#[]⟩) (fun _ => false) nd := StB.norm (HS9.out.bk.frame hfc hag10 (by decide)) (hRp.frame hf11 (Agr.refl _ _) (by decide) (by decide) (by decide)) hR11 (by show B <= p.lb; rw [hpl, <- HPL.out]; exact HS9.out.lb) HOF1.out
            have hD11 : DevC W11 B (nc W11 B c10) { q4 with p := p } D1 := ((HD9.out.frame HS9.out.nr hfc hag10 (by decide)).at q4.g p q4.dv q4.wt).nc
            have hbl11 : Below B w W11 := HBL9.out.trans (hfc.toBelow HS9.out.nr (by decide) hB9)
            have n1 := ((bcell hb10).1 _ _ hgl9).trans k1'
            have n13 := ((bcell hb10).1 _ _ hgl9).trans r13'
            have nf : ∀ j, w10.frozen? ⟨q.g, j, none⟩ = false := fun j => ((bcell hb10).2 _ j hgl9).trans (kf j)
            obtain ⟨_, _, _, _, _, _, _, t1, _⟩ := hS11.cells hnd0
            have t1' : W11.cell? ⟨q.g, 1, none⟩ = some (.pointer (some ⟨p.r, 0, none⟩)) := by have := t1; rw [show ({ q4 with p := p } : Plc).g = q.g from eg] at this; exact this
            have hgl11 : q.g < W11.heap.size := by rw [hW11]; simp; omega
            have HS11 := hideF hS11
            have HD11 := hideF hD11
            have HBL11 := hideF hbl11
            have HRP := hideF hRp
            clear hRp hag10 hb10 hRg10 hR11 hf11 hfc hS11 hD11 hbl11 t1 k1' r13' k2 k3 k4 k5 k6 k7 k8 k9 k10 kf HRO
            go_wp2_with fail
            rw [<- hW11]
            clear hW11 n1 n13 nf
            have eqd : q4.d = q2.d := by rw [HQ4.out]
            have HLK : Hid (∀ (wr : World) (t : Nat), t < 4 -> Below W11.heap.size W11 wr -> Calls Tryz.prog 14 #[.pointer (some ⟨q2.d, 0, none⟩), .int .i64 (t : Nat)] wr fun e w' => ∃ v, e = .returned (.tuple #[v, .int .i64 0]) /\ w'.ownsRow wr.heap.size 3 1 v (((List.range (D1.sz t)).map (D1.ent t)).length) (((List.range (D1.sz t)).map (D1.ent t)).flatMap encI) /\ Below wr.heap.size wr w') := fun wr t ht hbr => by
              have hdi := (HD11.out.frame HS11.out.nr (Fc.of_below (k := 9) hbr) (Agr.refl _ _) (by decide)).inn
              have hz := szF_le F.s0 F.s1 F.s2 F.s3 t 60 hF.s0 hF.s1 hF.s2 hF.s3
              have hzt : D1.sz t = szF F.s0 F.s1 F.s2 F.s3 t := by rw [HD1.out]; rfl
              have := look_any q4.d q4.L q4.S t q4.E q4.wv D1 ((List.range (D1.sz t)).map (D1.ent t)) wr hdi ht (by simp) (by omega) (fun j x hj => by rw [List.getElem?_map] at hj; obtain ⟨y, h2, rfl⟩ := Option.map_eq_some_iff.1 hj; obtain ⟨h3, h4⟩ := List.getElem?_eq_some_iff.1 h2; simp at h3 h4; rw [h4])
              rw [eqd] at this
              rw [show ((List.range (D1.sz t)).map (D1.ent t)).length = D1.sz t by simp]
              exact this
            have HRLK : Hid (∀ (wr : World) (t : Nat), t < 4 -> Below W11.heap.size W11 wr -> Calls Tryz.prog 38 #[.pointer (some ⟨p.r, 0, none⟩), .int .i64 (t : Nat)] wr fun e w' => ∃ v, e = .returned (.tuple #[v, .int .i64 0]) /\ w'.ownsRow wr.heap.size 3 1 v (((List.range (D1.sz t)).map (D1.ent t)).length) (((List.range (D1.sz t)).map (D1.ent t)).flatMap encI) /\ Below wr.heap.size wr w') := fun wr t ht hbr => by
              have hz := szF_le F.s0 F.s1 F.s2 F.s3 t 60 hF.s0 hF.s1 hF.s2 hF.s3
              have hzt : D1.sz t = szF F.s0 F.s1 F.s2 F.s3 t := by rw [HD1.out]; rfl
              have := rlook_any wr B _ p D1 _ 0 _ _ t (HS11.out.rf.below hbr) ht (by omega)
              rw [show ((List.range (D1.sz t)).map (D1.ent t)).length = D1.sz t by simp]
              exact this
            have HSZ : Hid (∀ t, ((List.range (D1.sz t)).map (D1.ent t)).length <= 1000000) := fun t => by
              have hz := szF_le F.s0 F.s1 F.s2 F.s3 t 60 hF.s0 hF.s1 hF.s2 hF.s3
              have hzt : D1.sz t = szF F.s0 F.s1 F.s2 F.s3 t := by rw [HD1.out]; rfl
              rw [show ((List.range (D1.sz t)).map (D1.ent t)).length = D1.sz t by simp]
              omega
            go_loopw [20, 21, 22, 23, 24, 25] (fun tv _ _ _ _ _ wr => ∃ t : Nat, tv = .int .i64 (t : Nat) /\ t <= 4 /\ Below W11.heap.size W11 wr) (fun tv _ _ _ _ _ _ => 4 - (intOf tv).toNat)
            case atStart => exact ⟨0, rfl, by omega, Below.refl _ _⟩
            case round =>
              obtain ⟨t, rfl, ht, hbr⟩ := hrel
              have HBR := hideF hbr
              by_cases ht4 : t < 4
              . clear hbr
                obtain ⟨xs, hxs⟩ : ∃ xs, xs = (List.range (D1.sz t)).map (D1.ent t) := ⟨_, rfl⟩
                have hL := HLK.out wr t ht4 HBR.out
                have hRL := fun w2 h2 => HRLK.out w2 t ht4 h2
                have hSZ := HSZ.out t
                rw [<- hxs] at hL hRL hSZ
                have HL := hideF hL
                have HRL2 := hideF hRL
                clear hL hRL hxs
                go_wp2_with fail
                refine HL.out.mono ?_
                rintro e wa ⟨va, rfl, hoa, hba⟩
                obtain ⟨aa, pa, rfl, _⟩ := own_view hoa
                have hbra := bel_then HBR.out hba
                have ta := ((bcell hbra).1 _ _ hgl11).trans t1'
                have HOA := hideF hoa
                have HBRA := hideF hbra
                clear hoa hba hbra
                go_wp2_with fail
                refine (HRL2.out wa HBRA.out).mono ?_
                rintro e wb ⟨vb, rfl, hob, hbb⟩
                obtain ⟨ab, pb, rfl, _⟩ := own_view hob
                have HOB := hideF hob
                have HOA2 := hideF (ownsRow_below HOA.out hbb)
                have HBRB := hideF (bel_then HBRA.out hbb)
                clear hob hbb ta
                go_wp2_with fail
                refine (sameInts_any xs xs _ _ _ _ wb HOA2.out HOB.out hSZ hSZ).mono ?_
                rintro e wd ⟨rfl, hbd⟩
                have HBRD := hideF (bel_then HBRB.out hbd)
                have edt : decide (xs = xs) = true := by simp
                clear hbd
                go_wp2
                go_roundw
                case rel => exact ⟨t + 1, by go_num, by omega, HBRD.out⟩
                case measure => simp [intOf]; omega
              . obtain rfl : t = 4 := by omega
                have hS12 := HS11.out.below hbr
                have hD12 := (HD11.out.frame HS11.out.nr (Fc.of_below (k := 9) hbr) (colN_agr W11 _ 9) (by decide)).nc
                have hB11 : B <= W11.heap.size := HS11.out.bk.bk.lo.2
                have hbl12 := HBL11.out.trans (hbr.mono hB11)
                have hst2 := HRE2.out.cm.dk.st_eq
                rw [HD1.out] at hS12 hD12
                have HS12 := hideF hS12
                have HD12 := hideF hD12
                have HBL12 := hideF hbl12
                clear hS12 hD12 hbl12 hbr
                go_wp2
                go_ret
                refine ⟨rfl, { q4 with p := p }, _, b2, N2, lat2, st2, d2, _, HS12.out, HD12.out, Cf.dev_sim hF N2 lat2 st2 nd d2 _ ⟨HRC.out.size, HRC.out.wet, HRC.out.dk⟩ HRD.out rfl hnd.1, Cf.dev_ok hF N2 lat2 st2 d2 hst2.1 hst2.2.1, by rw [HQ4.out], HBL12.out⟩
end Go.Proofs.YtcpldcojckhapaaGreat
