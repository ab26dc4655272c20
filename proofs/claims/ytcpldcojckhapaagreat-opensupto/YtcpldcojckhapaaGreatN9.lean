/-
  
-/
import Derived.Test.YtcpldcojckhapaaGreatJ34
import Derived.Deep.CutRange
set_option maxRecDepth 100000
namespace Go.Proofs.YtcpldcojckhapaaGreat
open Go.RowKit
theorem RefIn.as {w : World} {B : Nat} {c : Nat -> Nat} {p : Rfm} {D D' : Dev} {left : List (List Int)} {safe : Nat} {ys : Nat -> ByteArray} {zs : Nat -> Bool} (h : RefIn w B c p D left safe ys zs) (e1 : D'.sz = D.sz) (e2 : D'.kp = D.kp) (e3 : D'.unit = D.unit) (e4 : D'.nl = D.nl) (e5 : D'.batch = D.batch) (e6 : D'.ent = D.ent) (e7 : D'.uns = D.uns) (e8 : D'.wait = D.wait) (e9 : ∀ i, (D'.ln i).kind = (D.ln i).kind) : RefIn w B c p D' left safe ys zs := by
  have hr : refC p D' safe = refC p D safe := by unfold refC; rw [e1, e2, e3, e4, e5, e7]
  refine ⟨by rw [hr]; exact h.dev, by rw [e1, e6]; exact h.tab, h.inj, h.lnb, fun i hi => by rw [e9]; exact h.lns i (by rw [<- e4]; exact hi), by rw [e4]; exact h.ybs, by rw [e4]; exact h.zbs, by rw [e8]; exact h.wt, h.lf, h.lfs, h.cr, h.cG, h.cy, h.cz, h.cw, h.cl, h.cb, h.lo⟩
theorem step_append_keep {P : Program} {ops : Array Oper} {o : Oper} {a : Act} {w : World} {K : Act -> World -> Prop} {Q : Exit -> Act -> World -> Prop} {E : Prop}
    (hg : o.guard = none) (s x : Operand) (t : TypeId) (hop : o.op = Op.call { callee := Callee.builtin Builtin.append, args := #[s, x], argTypes := #[t, t] })
    (base : Nat) (e : TypeId) (i : TypeInfo) (z : Value) (size bytes : Nat) (h1 : P.underlying t = some (.slice e)) (h2 : P.info? e = some i) (h3 : i.zero = some z) (h4 : i.size = size) (h5 : i.bytes = bytes) (h6 : z.cells.size = size) (h7 : 0 < size)
    (v : Value) (n : Nat) (xs : List Value) (hs : a.eval s = v) (hown : w.ownsRow base e size v n xs)
    (ad : Addr) (m c : Nat) (news : List Value) (hx : a.eval x = .slice (some ad) m c) (hn : news.length = m * size) (hc : ∀ j u, news[j]? = some u -> w.cell? (ad.add j) = some u) (h1c : ∀ u ∈ news, u.oneCell' = true)
    (b1 : n + m <= maxLen) (b2 : (n + m) * bytes <= 140737488355328) (hbase : base <= w.heap.size)
    (hK : ∀ v' w', w'.ownsRow base e size v' (n + m) (xs ++ news) -> w.grownBy w' v.ownBlock -> (∀ g', v'.ownBlock = some g' -> v.ownBlock = some g' ∨ w.heap.size <= g') -> K (a.put o.dst v') w') :
    if Region.wanted o (yielded ops a.tmps) = true then Oper.wp P o a w K Q else E := by
  have hw : Region.wanted o (yielded ops a.tmps) = true := by simp [Region.wanted, hg]
  rw [if_pos hw]
  obtain ⟨v', w', hr, r2, r3, _, r5⟩ := run_append_keep (P := P) w base t o.type e i z size bytes h1 h2 h3 h4 h5 h6 h7 v n xs hown ad m c news hn hc h1c b1 b2 hbase
  unfold Oper.wp execOp
  simp only [hop, resolve, invoke, builtin, Sem.run_bind, Sem.run_pure, Result.andThen_ok, List.map_toArray, List.map_cons, List.map_nil, hs, hx, hr]
  exact hK _ _ r2 r3 r5
def TakeRef (w : World) (B : Nat) (c : Nat -> Nat) (p : Rfm) (D : Dev) (left : List (List Int)) (safe : Nat) (ys : Nat -> ByteArray) (zs : Nat -> Bool) (i m u : Nat) (s : ByteArray) (e : Ending) (w' : World) : Prop :=
  ∃ v p' c', e = .returned v /\ w'.ownsRow B 113 3 v (takeW D i m u s).length ((takeW D i m u s).flatMap encW) /\ RefIn w' B c' p' (takeP D i m u s).1 (takeL D u s left) (takeS D u s (D.arr + 1) safe) ys zs /\ Agr w c c' /\ Fc c 3 w w' /\ p'.r = p.r /\ p'.lb = p.lb /\ p'.cap = p.cap
set_option maxHeartbeats 2000000 in
theorem rtake_no (w : World) (B : Nat) (c : Nat -> Nat) (p : Rfm) (D : Dev) (left : List (List Int)) (safe : Nat) (ys : Nat -> ByteArray) (zs : Nat -> Bool) (i m u : Nat) (s : ByteArray) (h : RefIn w B c p D left safe ys zs) (hi : i < D.nl) (_hnl : D.nl <= 4) (hk : (D.ln i).kind = 0) (hs : 0 < s.size) (hu : u ≠ D.unit) :
    Calls Tryz.prog 70 #[.pointer (some ⟨p.r, 0, none⟩), .int .i64 (i : Nat), .agg #[.int .i64 (m : Nat), .int .i64 (u : Nat), .string s]] w (TakeRef w B c p D left safe ys zs i m u s) := by
  obtain ⟨_, _, c6, c7, _, _, _, _, _, _, _, _, hrl⟩ := h.cells
  have hln0 := h.lns i hi
  obtain ⟨cb, hcb⟩ := h.lnb
  have hll := lt_of_block hcb
  have hln : w.cell? ⟨p.lb, i, none⟩ = some (.int .i64 0) := by rw [hln0, hk]; rfl
  have hiI : (i : Int) < (D.nl : Int) := by omega
  have hne : ((u : Int) == (D.unit : Int)) = false := by simp; omega
  have hne2 : ((u : Int) != (D.unit : Int)) = true := by simp; omega
  have hne3 : decide ((u : Int) = (D.unit : Int)) = false := by simp; omega
  have gb := Pl.get_byt s
  have HR := hideF h
  clear hln0 hcb hk h
  go_enter Tryz.func70, Tryz.ntmps70
  go_wp2_with fail
  go_quiet (fail)
  go_wp2
  go_ret
  have hb : Below w.heap.size w _ := below_drewN (bel_alloc (Below.refl _ w) (.cells #[.int .i64 (m : Nat), .int .i64 (u : Nat), .string s] 94)) nq
  refine ⟨.slice none 0 0, p, c, rfl, ?_, ?_, Agr.refl _ _, Fc.of_below hb, rfl, rfl, rfl⟩
  . unfold takeW; rw [if_pos hu]; exact World.ownsRow_nil _ _ _ _
  . unfold takeP takeL takeS; rw [if_pos hu, if_pos hu, if_pos hu]; exact HR.out.below hb
section
variable {w X w3 : World} {B : Nat} {c : Nat -> Nat} {p : Rfm} {D : Dev} {left : List (List Int)} {safe : Nat} {ys : Nat -> ByteArray} {zs : Nat -> Bool}
theorem RefIn.leftPut {v2 v3 : Value} {l : List Int} {C : Nat} (h : RefIn w B c p D left safe ys zs) (hX : Below w.heap.size w X) (ho : w3.ownsRow B 28 1 v3 (left.length + 1) (p.vs ++ [v2])) (hg : X.grownBy w3 p.lv.ownBlock) (hfr : ∀ g', v3.ownBlock = some g' -> p.lv.ownBlock = some g' ∨ X.heap.size <= g')
    (hv : w.ownsRow C 3 1 v2 l.length (l.flatMap encI)) (hC : B <= C) (h4 : ∀ g, v2.ownBlock = some g -> c g = 4) :
    RefIn (w3.setCell ⟨p.r, 17, none⟩ v3) B (colN w c 3) { p with lv := v3, vs := p.vs ++ [v2] } D (left ++ [l]) safe ys zs /\ (∀ g, g < w.heap.size -> g ≠ p.r -> p.lv.ownBlock ≠ some g -> (w3.setCell ⟨p.r, 17, none⟩ v3).heap[g]? = w.heap[g]?) /\ w.heap.size <= w3.heap.size := by
  have hXs := hX.size
  have hs3 := hg.size
  have hrl := lt_of_block h.dev
  have hlr : p.lv.ownBlock ≠ some p.r := fun e => by
    obtain ⟨cl, hcl⟩ := own_block h.lf _ e
    exact ne_types hcl h.dev (by decide) rfl
  have hk : ∀ g, g < w.heap.size -> g ≠ p.r -> p.lv.ownBlock ≠ some g -> (w3.setCell ⟨p.r, 17, none⟩ v3).heap[g]? = w.heap[g]? := fun g h1 h2 h3 => by
    rw [heap_setCell_other w3 ⟨p.r, 17, none⟩ g v3 h2, hg.block g (by omega) (fun e => h3 e.symm)]
    exact hX.block g h1
  have hd3 : w3.heap[p.r]? = some (.cells (refC p D safe) 48 (0, 0)) := ((hg.block p.r (by omega) (fun e => hlr e.symm)).trans (hX.block p.r hrl)).trans h.dev
  have hvl : p.vs.length = left.length := by have := h.lf.1; omega
  have hty : ∀ {g : Nat} {cur : Array Value} {t : TypeId}, w.heap[g]? = some (.cells cur t (0, 0)) -> t ≠ 48 -> t ≠ 28 -> (w3.setCell ⟨p.r, 17, none⟩ v3).heap[g]? = w.heap[g]? := fun {g cur t} h1 h2 h3 => hk g (lt_of_block h1) (ne_types h1 h.dev h2) (fun e => by
    obtain ⟨cl, hcl⟩ := own_block h.lf _ e
    exact ne_types h1 hcl h3 rfl)
  refine ⟨h.turn2 (wv' := p.wv) (D' := D) (by simp; omega) (fun g h1 h2 _ h3 => hk g h1 h2 h3) (colN_agr w c 3) (heap_setCell_same w3 p.r 17 _ 48 v3 hd3) rfl rfl rfl rfl (own_same h.wt fun g hg => ?_) ?_ (fun j x hj => ?_) (fun g hg => ?_) (fun g hg => ?_), hk, by omega⟩
  . obtain ⟨cg, hcg⟩ := own_block h.wt g hg
    exact hty hcg (by decide) (by decide)
  . rw [List.length_append, List.length_singleton]
    refine own_same ho fun g hg2 => heap_setCell_other w3 ⟨p.r, 17, none⟩ g v3 (fun e => ?_)
    subst e
    rcases hfr _ hg2 with r | r
    . exact hlr r
    . have : X.heap.size <= p.r := r
      omega
  . rcases Nat.lt_or_ge j left.length with hlt | hge
    . rw [List.getElem?_append_left hlt] at hj
      obtain ⟨v, g1, g2, g3⟩ := h.lfs j x hj
      refine ⟨v, by rw [List.getElem?_append_left (by omega)]; exact g1, own_same g2 fun g hg2 => ?_, fun g hg2 => by rw [colN_agr w c 3 g (g2.lt g hg2).2]; exact g3 g hg2⟩
      obtain ⟨cg, hcg⟩ := own_block g2 g hg2
      exact hty hcg (by decide) (by decide)
    . have hj2 : j = left.length := by
        have := (List.getElem?_eq_some_iff.1 hj).1
        simp at this; omega
      subst hj2
      rw [List.getElem?_append_right (Nat.le_refl _), Nat.sub_self] at hj
      obtain rfl : l = x := by simpa using hj
      refine ⟨v2, by rw [List.getElem?_append_right (by omega), hvl, Nat.sub_self]; rfl, own_same (own_base hv hC) fun g hg2 => ?_, fun g hg2 => by rw [colN_agr w c 3 g (hv.lt g hg2).2]; exact h4 g hg2⟩
      obtain ⟨cg, hcg⟩ := own_block hv g hg2
      exact hty hcg (by decide) (by decide)
  . rw [colN_agr w c 3 g (h.wt.lt g hg).2]; exact h.cw g hg
  . rcases hfr g hg with r | r
    . rw [colN_agr w c 3 g (h.lf.lt g r).2]; exact h.cl g r
    . exact colN_new w c 3 g (by omega)
theorem RefIn.waitPut {v3 : Value} {a : Int × Int × ByteArray} (h : RefIn w B c p D left safe ys zs) (hX : Below w.heap.size w X) (ho : w3.ownsRow B 113 3 v3 (D.wait.length + 1) (D.wait.flatMap encW ++ encW a)) (hg : X.grownBy w3 p.wv.ownBlock) (hfr : ∀ g', v3.ownBlock = some g' -> p.wv.ownBlock = some g' ∨ X.heap.size <= g') :
    RefIn (w3.setCell ⟨p.r, 15, none⟩ v3) B (colN w c 3) { p with wv := v3 } { D with wait := D.wait ++ [a] } left safe ys zs /\ w.heap.size <= w3.heap.size := by
  have hXs := hX.size
  have hs3 := hg.size
  have hrl := lt_of_block h.dev
  have hlr : p.wv.ownBlock ≠ some p.r := fun e => by
    obtain ⟨cl, hcl⟩ := own_block h.wt _ e
    exact ne_types hcl h.dev (by decide) rfl
  have hk : ∀ g, g < w.heap.size -> g ≠ p.r -> p.wv.ownBlock ≠ some g -> (w3.setCell ⟨p.r, 15, none⟩ v3).heap[g]? = w.heap[g]? := fun g h1 h2 h3 => by
    rw [heap_setCell_other w3 ⟨p.r, 15, none⟩ g v3 h2, hg.block g (by omega) (fun e => h3 e.symm)]
    exact hX.block g h1
  have hd3 : w3.heap[p.r]? = some (.cells (refC p D safe) 48 (0, 0)) := ((hg.block p.r (by omega) (fun e => hlr e.symm)).trans (hX.block p.r hrl)).trans h.dev
  have hty : ∀ {g : Nat} {cur : Array Value} {t : TypeId}, w.heap[g]? = some (.cells cur t (0, 0)) -> t ≠ 48 -> t ≠ 113 -> (w3.setCell ⟨p.r, 15, none⟩ v3).heap[g]? = w.heap[g]? := fun {g cur t} h1 h2 h3 => hk g (lt_of_block h1) (ne_types h1 h.dev h2) (fun e => by
    obtain ⟨cl, hcl⟩ := own_block h.wt _ e
    exact ne_types h1 hcl h3 rfl)
  refine ⟨h.turn2 (lv' := p.lv) (vs' := p.vs) (left' := left) (D' := { D with wait := D.wait ++ [a] }) (by simp; omega) (fun g h1 h2 h3 _ => hk g h1 h2 h3) (colN_agr w c 3) (heap_setCell_same w3 p.r 15 _ 48 v3 hd3) rfl rfl rfl rfl ?_ (own_same h.lf fun g hg => ?_) (fun j x hj => ?_) (fun g hg => ?_) (fun g hg => ?_), by omega⟩
  . have e : (D.wait ++ [a]).length = D.wait.length + 1 := by simp
    have e2 : (D.wait ++ [a]).flatMap encW = D.wait.flatMap encW ++ encW a := by simp
    show World.ownsRow _ B 113 3 v3 (D.wait ++ [a]).length ((D.wait ++ [a]).flatMap encW)
    rw [e, e2]
    refine own_same ho fun g hg2 => heap_setCell_other w3 ⟨p.r, 15, none⟩ g v3 (fun e => ?_)
    subst e
    rcases hfr _ hg2 with r | r
    . exact hlr r
    . have : X.heap.size <= p.r := r
      omega
  . obtain ⟨cg, hcg⟩ := own_block h.lf g hg
    exact hty hcg (by decide) (by decide)
  . obtain ⟨v, g1, g2, g3⟩ := h.lfs j x hj
    refine ⟨v, g1, own_same g2 fun g hg2 => ?_, fun g hg2 => by rw [colN_agr w c 3 g (g2.lt g hg2).2]; exact g3 g hg2⟩
    obtain ⟨cg, hcg⟩ := own_block g2 g hg2
    exact hty hcg (by decide) (by decide)
  . rcases hfr g hg with r | r
    . rw [colN_agr w c 3 g (h.wt.lt g r).2]; exact h.cw g r
    . exact colN_new w c 3 g (by omega)
  . rw [colN_agr w c 3 g (h.lf.lt g hg).2]; exact h.cl g hg
theorem RefIn.unsPut (h : RefIn w B c p D left safe ys zs) (n : Nat) : RefIn (w.setCell ⟨p.r, 16, none⟩ (.int .i64 (n : Nat))) B c p { D with uns := n } left safe ys zs := by
  have hC : Chg1 p.r w (w.setCell ⟨p.r, 16, none⟩ (.int .i64 (n : Nat))) := (Chg1.refl _ _).setCell _ _
  have hne : ∀ (v : Value) (e : TypeId) (size k : Nat) (xs : List Value), w.ownsRow B e size v k xs -> e ≠ 48 -> (w.setCell ⟨p.r, 16, none⟩ (.int .i64 (n : Nat))).ownsRow B e size v k xs := fun v e size k xs ho he => own_same ho fun g hg => by
    obtain ⟨cg, hcg⟩ := own_block ho g hg
    exact hC.block g (lt_of_block hcg) (ne_types hcg h.dev he)
  refine h.turn (wv' := p.wv) (lv' := p.lv) (vs' := p.vs) (D' := { D with uns := n }) hC (Agr.refl _ _) (heap_setCell_same w p.r 16 _ 48 _ h.dev) rfl rfl rfl rfl (hne _ _ _ _ _ h.wt (by decide)) (hne _ _ _ _ _ h.lf (by decide)) (fun j l hj => ?_) h.cw h.cl
  obtain ⟨v, g1, g2, g3⟩ := h.lfs j l hj
  exact ⟨v, g1, hne _ _ _ _ _ g2 (by decide), g3⟩
end
theorem mid_uns0 {D : Dev} {s : ByteArray} (hok : DevOk D) (h0 : (midP D s).uns = 0) : D.wait = [] := by
  have h0' : (if doB D (shpOf s).1 (shpOf s).2 = true then D.uns + 1 else D.uns) = 0 := h0
  split at h0'
  . omega
  . exact hok.w0 h0'
theorem tookW {D : Dev} {s : ByteArray} (i m : Nat) (hok : DevOk D) (hT : takeF D s) : takeW D i m D.unit s = D.wait ++ [ansP D i m s] := by
  unfold takeW
  rw [if_neg (by simp)]
  by_cases h0 : (midP D s).uns = 0
  . rw [if_pos h0, mid_uns0 hok h0]; rfl
  . rw [if_neg h0, if_pos (hT.resolve_left h0)]
theorem RefIn.tookF {w : World} {B : Nat} {c : Nat -> Nat} {p : Rfm} {D : Dev} {left : List (List Int)} {n : Nat} {ys : Nat -> ByteArray} {zs : Nat -> Bool} {s : ByteArray} {i m : Nat} (h : RefIn w B c p { midP D s with uns := 0, wait := [] } left n ys zs) (hok : DevOk D) (hT : takeF D s) : RefIn w B c p (takeP D i m D.unit s).1 left n ys zs := by
  unfold takeP
  rw [if_neg (by simp)]
  by_cases h0 : (midP D s).uns = 0
  . rw [if_pos h0]
    exact h.as rfl rfl rfl rfl rfl rfl h0 (mid_uns0 (D := D) hok h0) (fun _ => rfl)
  . rw [if_neg h0, if_pos (hT.resolve_left h0)]
    unfold flushP
    rw [if_neg (show ¬ (midP D s).uns = 0 from h0)]
    exact h.as rfl rfl rfl rfl rfl rfl rfl rfl (fun _ => rfl)
theorem tookN {D : Dev} {s : ByteArray} (i m : Nat) (hT : ¬ takeF D s) : takeW D i m D.unit s = [] /\ (takeP D i m D.unit s).1 = { midP D s with wait := D.wait ++ [ansP D i m s] } := by
  have h0 : ¬ (midP D s).uns = 0 := fun e => hT (.inl e)
  have hb : ¬ D.batch <= D.wait.length + 1 := fun e => hT (.inr e)
  unfold takeW takeP
  rw [if_neg (by simp), if_neg h0, if_neg hb, if_neg (by simp), if_neg h0, if_neg hb]
  exact ⟨rfl, rfl⟩
theorem alloc_news (w : World) (l : List Value) (t : TypeId) : ∀ j u, l[j]? = some u -> (w.alloc (.cells l.toArray t)).cell? ((⟨w.heap.size, 0, none⟩ : Addr).add j) = some u := fun j u hj => by
  have e : (⟨w.heap.size, 0, none⟩ : Addr).add j = ⟨w.heap.size, j, none⟩ := by by_cases h0 : j = 0 <;> simp [Addr.add, h0]
  rw [e, cell_of_row _ _ _ _ _ _ (heap_alloc_new w _)]
  simpa using hj
set_option maxHeartbeats 4000000 in
theorem rtake_yes (w : World) (B : Nat) (c : Nat -> Nat) (p : Rfm) (D : Dev) (left : List (List Int)) (safe : Nat) (ys : Nat -> ByteArray) (zs : Nat -> Bool) (i m : Nat) (s : ByteArray) (h : RefIn w B c p D left safe ys zs) (hok : DevOk D) (hi : i < D.nl) (hk : (D.ln i).kind = 0) (hm : m < 65536) (hs : 0 < s.size) (hs2 : s.size <= 253) (hla : left.length = D.arr + 1) (ha : D.arr <= 900000) :
    Calls Tryz.prog 70 #[.pointer (some ⟨p.r, 0, none⟩), .int .i64 (i : Nat), .agg #[.int .i64 (m : Nat), .int .i64 (D.unit : Nat), .string s]] w (TakeRef w B c p D left safe ys zs i m D.unit s) := by
  obtain ⟨i0, ji, jz0, jz1, jz2⟩ := info_parts Tryz.infoE28
  obtain ⟨i1, qi, qz0, qz1, qz2⟩ := info_parts Tryz.infoE113
  obtain ⟨_, _, c6, c7, _, _, _, _, _, _, _, _, hrl⟩ := h.cells
  have hln0 := h.lns i hi
  obtain ⟨cb, hcb⟩ := h.lnb
  have hll := lt_of_block hcb
  have hln : w.cell? ⟨p.lb, i, none⟩ = some (.int .i64 0) := by rw [hln0, hk]; rfl
  have hnl := hok.nl
  have hiI : (i : Int) < (D.nl : Int) := by omega
  have gb := Pl.get_byt s
  obtain ⟨X, hX⟩ : ∃ X, X = w.alloc (.cells #[.int .i64 (m : Nat), .int .i64 (D.unit : Nat), .string s] 94) := ⟨_, rfl⟩
  have hXb : Below w.heap.size w X := by rw [hX]; exact bel_alloc (Below.refl _ _) _
  have hXs : X.heap.size = w.heap.size + 1 := by rw [hX]; simp
  have hXg : X.heap[w.heap.size]? = some (.cells #[.int .i64 (m : Nat), .int .i64 (D.unit : Nat), .string s] 94 (0, 0)) := by rw [hX]; exact heap_alloc_new w _
  have HR := hideF h
  have HOK := hideF hok
  have HXB := hideF hXb
  have HXG := hideF hXg
  have HLA := hideF hla
  obtain ⟨bk, hbk⟩ : ∃ b, b = doB D (shpOf s).1 (shpOf s).2 := ⟨_, rfl⟩
  have HBK := hideF hbk
  clear hln0 hcb h hok hXb hXg hla
  go_enter Tryz.func70, Tryz.ntmps70
  go_wp2_with fail
  go_quiet (fail)
  go_wp2_with fail
  rw [<- hX]
  have hF0 : Fc c 3 w (X.drewN nq) := (Fc.of_below HXB.out).drewN nq
  refine (request_any (X.drewN nq) B (colN w c 9) p D left safe ys zs s (shpOf s).1 (shpOf s).2 (HR.out.frame (k := 9) ((Fc.of_below HXB.out).drewN nq) (colN_agr w c 9) (by omega) (by omega) (by omega)) (shpOf_is s) hs hs2 HOK.out.sz HOK.out.ent).mono ?_
  rintro e w1 ⟨rfl, hR1, hF1⟩
  rw [<- hbk]
  clear hbk
  have HF1 := hideF (hF0.trans hF1 (colN_agr w c 9))
  have HR1 := hideF hR1
  have HBX1 : Hid (w1.heap[w.heap.size]? = some (.cells #[.int .i64 (m : Nat), .int .i64 (D.unit : Nat), .string s] 94 (0, 0))) := (hF1.keep _ _ _ HXG.out (.inl (by decide)) (by rw [colN_new w c 9 _ (Nat.le_refl _)]; omega)).trans HXG.out
  have hs1 : w.heap.size + 1 <= w1.heap.size := by have := hF1.size; rw [show (X.drewN nq).heap.size = X.heap.size from rfl, hXs] at this; exact this
  clear hR1 hF1 hF0 c6 c7 hln gb
  go_wp2_with fail
  refine (rkept_any w1 B (colN w c 9) p { D with ent := doE D (shpOf s).1 (shpOf s).2 } left safe ys zs HR1.out HOK.out.sz HOK.out.kp0 HOK.out.kp2).mono ?_
  rintro e w2 ⟨v2, rfl, ho2, hb2⟩
  obtain ⟨a2, k2, rfl, _⟩ := own_view ho2
  have hsz2 := hb2.size
  obtain ⟨c2, hc2⟩ : ∃ c2, c2 = colN w1 (colN w c 9) 4 := ⟨_, rfl⟩
  have HA2 : Hid (Agr w c c2) := by rw [hc2]; exact (colN_agr w c 9).trans (colN_agr w1 _ 4) (by omega)
  have HR2 : Hid (RefIn w2 B c2 p { D with ent := doE D (shpOf s).1 (shpOf s).2 } left safe ys zs) := HR1.out.frame (k := 9) (Fc.of_below hb2) (by rw [hc2]; exact colN_agr w1 _ 4) (by omega) (by omega) (by omega)
  have HF2 := hideF (HF1.out.then_below hb2)
  have HBX2 : Hid (w2.heap[w.heap.size]? = some (.cells #[.int .i64 (m : Nat), .int .i64 (D.unit : Nat), .string s] 94 (0, 0)) /\ c2 w.heap.size = 9) := ⟨(hb2.block _ (by omega)).trans HBX1.out, by rw [hc2, colN_agr w1 _ 4 _ (by omega), colN_new w c 9 _ (Nat.le_refl _)]⟩
  have HO2 := hideF ho2
  have HC2 : Hid (∀ g, Value.ownBlock (.slice a2 (D.kp 0 + D.kp 2) k2) = some g -> c2 g = 4) := fun g hg => by rw [hc2]; exact colN_new _ _ _ _ (ho2.lt g hg).1
  obtain ⟨_, _, _, _, _, _, _, _, _, c17, _, cf, hrl2⟩ := HR2.out.cells
  obtain ⟨X2, hX2⟩ : ∃ X2, X2 = w2.alloc (.cells #[.slice a2 (D.kp 0 + D.kp 2) k2] 28) := ⟨_, rfl⟩
  have hX2b : Below w2.heap.size w2 X2 := by rw [hX2]; exact bel_alloc (Below.refl _ _) _
  have HLF : Hid (X2.ownsRow B 28 1 p.lv left.length p.vs) := own_same HR2.out.lf fun g hg => hX2b.block g (HR2.out.lf.lt g hg).2
  have HNW : Hid (∀ j u, ([.slice a2 (D.kp 0 + D.kp 2) k2] : List Value)[j]? = some u -> X2.cell? ((⟨w2.heap.size, 0, none⟩ : Addr).add j) = some u) := by rw [hX2]; exact alloc_news w2 [.slice a2 (D.kp 0 + D.kp 2) k2] 28
  have hBl : B <= X2.heap.size := by have := HR2.out.lo.2.2.2.2; have := hX2b.size; omega
  have d17 := ((bcell hX2b).1 _ 17 hrl2).trans c17
  have df : ∀ j, X2.frozen? ⟨p.r, j, none⟩ = false := fun j => ((bcell hX2b).2 _ j hrl2).trans (cf j)
  have hleft : left.length <= 900001 := by rw [HLA.out]; omega
  have hlvr : p.lv.ownBlock ≠ some p.r := fun e => by
    obtain ⟨cl, hcl⟩ := own_block HR2.out.lf _ e
    exact ne_types hcl HR2.out.dev (by decide) rfl
  have hrX : p.r < X2.heap.size := by have := hX2b.size; omega
  subst hX2
  clear ho2 hb2 hX2b
  go_upto_region 8 with (at_builtin; go_must (refine wpList_append_keep rfl (.tmp 76) (.tmp 78) 24 rfl B 28 i0 _ 1 24 Tryz.underlying24 ji jz0 jz1 jz2 rfl (by decide) p.lv left.length p.vs rfl HLF.out ⟨w2.heap.size, 0, none⟩ 1 1 [.slice a2 (D.kp 0 + D.kp 2) k2] rfl rfl HNW.out (by simp [Value.oneCell']) (by unfold maxLen; omega) (by omega) hBl ?_; intro v3 w3 hown3 hgrow3 _ hfr3; have e17 := hgrow3.cell d17 (by exact hlvr.symm); have ef : ∀ j, w3.frozen? ⟨p.r, j, none⟩ = false := fun j => (World.frozen?_of_block (hgrow3.block p.r hrX hlvr.symm)).trans (df j); obtain ⟨a3, k3, rfl, _⟩ := own_view hown3))
  have hXb2 : Below w2.heap.size w2 (w2.alloc (.cells #[.slice a2 (D.kp 0 + D.kp 2) k2] 28)) := bel_alloc (Below.refl _ _) _
  obtain ⟨hR3, hk3, hs3⟩ := HR2.out.leftPut (l := keptL (doE D (shpOf s).1 (shpOf s).2) (D.kp 0) (D.kp 2)) hXb2 hown3 hgrow3 hfr3 (by rw [keptL_len]; exact HO2.out) (by have := HR1.out.lo.2.2.2.2; omega) HC2.out
  have hF3 : Fc c 3 w (w3.setCell ⟨p.r, 17, none⟩ (.slice a3 (left.length + 1) k3)) := ((HF2.out.then_below hXb2).grown hgrow3 (fun g hg => .inr (HR.out.cl g hg))).setCell p.r 17 (.inr HR.out.cr) _
  have HBX3 : Hid ((w3.setCell ⟨p.r, 17, none⟩ (.slice a3 (left.length + 1) k3)).heap[w.heap.size]? = some (.cells #[.int .i64 (m : Nat), .int .i64 (D.unit : Nat), .string s] 94 (0, 0)) /\ colN w2 c2 3 w.heap.size = 9) := ⟨(hk3 _ (by omega) (by omega) (fun e => by have := (HR.out.lf.lt _ e).2; omega)).trans HBX2.out.1, by rw [colN_agr w2 c2 3 _ (by omega)]; exact HBX2.out.2⟩
  have HA3 : Hid (Agr w c (colN w2 c2 3)) := HA2.out.trans (colN_agr w2 c2 3) (by omega)
  obtain ⟨V3, hV3⟩ : ∃ V3, V3 = w3.setCell ⟨p.r, 17, none⟩ (.slice a3 (left.length + 1) k3) := ⟨_, rfl⟩
  have hVs : V3.heap.size = w3.heap.size := by rw [hV3]; simp
  rw [<- hV3] at hR3 hF3 HBX3 ⊢
  have HR3 := hideF hR3
  have HF3 := hideF hF3
  obtain ⟨_, _, _, _, _, _, _, _, c16, _, _, cf3, hrl3⟩ := hR3.cells
  clear hR3 hF3 hk3 hown3 hgrow3 hfr3 e17 ef hV3 hXb2 HLF HNW d17 df c17 cf
  have hun : IntKind.i64.wrap ((D.uns : Int) + 1) = ((D.uns + 1 : Nat) : Int) := by have := HOK.out.uns; have := HOK.out.wlen; have := HOK.out.batch; rw [IntKind.wrap_i64]; omega
  go_upto_if 82 with fail
  go_cut [] from 82 to 89 (fun wx => RefIn wx B (colN w2 c2 3) { p with lv := .slice a3 (left.length + 1) k3, vs := p.vs ++ [.slice a2 (D.kp 0 + D.kp 2) k2] } (midP D s) (left ++ [keptL (doE D (shpOf s).1 (shpOf s).2) (D.kp 0) (D.kp 2)]) safe ys zs /\ Fc c 3 w wx /\ wx.heap[w.heap.size]? = some (.cells #[.int .i64 (m : Nat), .int .i64 (D.unit : Nat), .string s] 94 (0, 0)) /\ wx.heap.size = w3.heap.size)
  case first =>
    cases bk
    . go_wp2_with fail
      go_meet
      exact ⟨HR3.out.as rfl rfl rfl rfl rfl rfl (by show (if doB D (shpOf s).1 (shpOf s).2 = true then D.uns + 1 else D.uns) = D.uns; rw [<- HBK.out]; rfl) rfl (fun _ => rfl), HF3.out, HBX3.out.1, hVs⟩
    . go_wp2_with fail
      go_meet
      refine ⟨(HR3.out.unsPut (D.uns + 1)).as rfl rfl rfl rfl rfl rfl (by show (if doB D (shpOf s).1 (shpOf s).2 = true then D.uns + 1 else D.uns) = D.uns + 1; rw [<- HBK.out]; rfl) rfl (fun _ => rfl), HF3.out.setCell p.r 16 (.inr HR.out.cr) _, ?_, by simp; exact hVs⟩
      rw [heap_setCell_other V3 ⟨p.r, 16, none⟩ _ _ (by show w.heap.size ≠ p.r; omega)]
      exact HBX3.out.1
  case rest =>
    obtain ⟨hR4, hF4, hbx4, hs4⟩ := hcut
    obtain ⟨b0, b1, b2, _⟩ := cells3f hbx4
    have HR4 := hideF hR4
    have HF4 := hideF hF4
    have HBX4 := hideF hbx4
    clear hR4 hF4 hbx4
    have hun2 := HOK.out.unit
    have hrz := doR_size D s (shpOf s).1 (shpOf s).2 HOK.out (shpOf_is s) hs2
    go_wp2_with fail
    refine (answered_any wc B (colN w2 c2 3) _ (midP D s) _ safe ys zs i m D.unit s (doR D s (shpOf s).1 (shpOf s).2) HR4.out hi hnl.2 hk hm (by omega) (by omega)).mono ?_
    rintro e w5 ⟨rfl, hb5⟩
    have HR5 := hideF (HR4.out.below hb5)
    have HF5 := hideF (HF4.out.then_below hb5)
    have hs5 := hb5.size
    obtain ⟨_, _, _, _, d8, _, _, d15, d16, d17, _, df, hrl5⟩ := HR5.out.cells
    have HWT : Hid (w5.ownsRow B 113 3 p.wv D.wait.length (D.wait.flatMap encW)) := HR5.out.wt
    have HDV : Hid (w5.heap[p.r]? = some (.cells (refC { p with lv := .slice a3 (left.length + 1) k3, vs := p.vs ++ [.slice a2 (D.kp 0 + D.kp 2) k2] } (midP D s) safe) 48 (0, 0))) := HR5.out.dev
    have hwr : p.wv.ownBlock ≠ some p.r := fun e => by
      obtain ⟨cl, hcl⟩ := own_block HWT.out _ e
      exact ne_types hcl HDV.out (by decide) rfl
    have hB5 : B <= w5.heap.size := HR5.out.lo.2.2.2.2
    have hwl : D.wait.length <= 8 := by have := HOK.out.wlen; have := HOK.out.batch; omega
    have hN : IntKind.i64.wrap (left.length : Int) = ((D.arr + 1 : Nat) : Int) := by rw [HLA.out, IntKind.wrap_i64]; omega
    clear b0 b1 b2 hb5
    go_upto_region 12 with fail
    go_cut [] from 97 to 114 (fun wx => ∃ a6 k6, RefIn wx B (colN w5 (colN w2 c2 3) 3) { p with lv := .slice a3 (left.length + 1) k3, vs := p.vs ++ [.slice a2 (D.kp 0 + D.kp 2) k2], wv := .slice a6 (D.wait.length + 1) k6 } { midP D s with wait := D.wait ++ [ansP D i m s] } (left ++ [keptL (doE D (shpOf s).1 (shpOf s).2) (D.kp 0) (D.kp 2)]) safe ys zs /\ Fc c 3 w wx)
    case first =>
     go_region_law (first
      | (refine step_append_keep rfl (.tmp 101) (.tmp 111) 46 rfl B 113 i1 _ 3 32 Tryz.underlying46 qi qz0 qz1 qz2 rfl (by decide) p.wv D.wait.length (D.wait.flatMap encW) rfl ((own_same HWT.out (fun g _ => rfl)).alloc _) ⟨w5.heap.size, 0, none⟩ 1 1 [_, _, _] rfl rfl (cell_three_new _ _ _ _ _) (by intro u hu; simp at hu; rcases hu with rfl | rfl | rfl <;> rfl) (by unfold maxLen; omega) (by omega) (by simp; omega) ?_; intro v6 w6 hown6 hgrow6 hfr6; obtain ⟨a6, k6, rfl, _⟩ := own_view hown6; have hd6 := (hgrow6.block p.r (by simp; omega) (fun e => hwr e.symm)).trans ((heap_alloc_old _ _ (by exact hrl5)).trans HDV.out); have c15' : w6.cell? ⟨p.r, 15, none⟩ = some p.wv := (by rw [cell_of_row _ _ _ _ _ _ hd6]; rfl); have f6 : ∀ j, w6.frozen? ⟨p.r, j, none⟩ = false := fun j => frozen_of_row _ _ _ _ _ hd6))
     all_goals
      go_wp2
      go_meet
      have hXb : Below w5.heap.size w5 (w5.alloc (.cells #[.int .i64 (i : Nat), .string (streamB m D.unit (doR D s (shpOf s).1 (shpOf s).2)), .int .i64 ((D.arr : Int) + 1)] 113)).drew := (bel_alloc (Below.refl _ _) _).drew
      refine ⟨a6, k6, (HR5.out.waitPut (a := ansP D i m s) hXb hown6 hgrow6 hfr6).1, ((HF5.out.then_below hXb).grown hgrow6 (fun g hg => .inr (HR.out.cw g hg))).setCell p.r 15 (.inr HR.out.cr) _⟩
    case rest =>
     obtain ⟨a6, k6, hR6, hF6⟩ := hcut
     obtain ⟨_, _, _, _, e8, _, _, e15, e16, _, _, _, hrl6⟩ := hR6.cells
     have HR6 := hideF hR6
     have HF6 := hideF hF6
     have hs6 := hR6.lo
     obtain ⟨U, hU⟩ : ∃ U, U = (midP D s).uns := ⟨_, rfl⟩
     have e16' : wc.cell? ⟨p.r, 16, none⟩ = some (.int .i64 (U : Nat)) := by rw [hU]; exact e16
     have hUw : U <= D.wait.length + 1 := by
       have h1 : (midP D s).uns = if doB D (shpOf s).1 (shpOf s).2 = true then D.uns + 1 else D.uns := rfl
       have h2 := HOK.out.uns
       rw [hU, h1]
       split <;> omega
     have hb1 := HOK.out.batch
     have HU := hideF hU
     have hA6 : Agr w c (colN w5 (colN w2 c2 3) 3) := HA3.out.trans (colN_agr w5 _ 3) (by have := HF4.out.size; omega)
     have HA6 := hideF hA6
     have HTF : Hid (U = 0 ∨ D.batch <= D.wait.length + 1 -> takeF D s) := fun g => g.elim (fun e => .inl (hU.symm.trans e)) .inr
     have hlfl : (left ++ [keptL (doE D (shpOf s).1 (shpOf s).2) (D.kp 0) (D.kp 2)]).length = D.arr + 2 := by rw [List.length_append, HLA.out]; rfl
     have HLFL := hideF hlfl
     have e8' : wc.cell? ⟨p.r, 8, none⟩ = some (.int .i64 (D.batch : Nat)) := e8
     have e15' : wc.cell? ⟨p.r, 15, none⟩ = some (.slice a6 (D.wait.length + 1) k6) := e15
     clear hR6 hF6 hU hA6 hlfl e16 e8 e15 hs6 d8 d15 d16 d17 df c16 cf3
     rcases (show U = 0 ∨ (U ≠ 0 /\ D.batch <= U) ∨ (U ≠ 0 /\ U < D.batch /\ D.batch <= D.wait.length + 1) ∨ (U ≠ 0 /\ U < D.batch /\ D.wait.length + 1 < D.batch) by omega) with rfl | ⟨h1, h2⟩ | ⟨h1, h2, h3⟩ | ⟨h1, h2, h3⟩
     case inr.inr.inr =>
       have g1 : ((U : Int) == 0) = false := by simp; omega
       have g2 : decide ((U : Int) = 0) = false := by simp; omega
       have g3 : decide (D.batch <= U) = false := by simp; omega
       have g4 : decide (D.batch <= D.wait.length + 1) = false := by simp; omega
       have g5 : decide ((D.batch : Int) <= (D.wait.length : Int) + 1) = false := by simp; omega
       have g6 : decide ((D.batch : Int) <= ((D.wait.length + 1 : Nat) : Int)) = false := by simp; omega
       have HT : Hid (¬ takeF D s) := fun g => g.elim (fun e => h1 (HU.out.trans e)) (fun e => by omega)
       clear h1 h2 h3 hUw
       go_wp2_with fail
       go_quiet (fail)
       go_wp2
       go_ret
       obtain ⟨t1, t2⟩ := tookN i m HT.out
       refine ⟨_, { p with lv := .slice a3 (left.length + 1) k3, vs := p.vs ++ [.slice a2 (D.kp 0 + D.kp 2) k2], wv := .slice a6 (D.wait.length + 1) k6 }, _, rfl, ?_, ?_, HA6.out, HF6.out.drewN nq, rfl, rfl, rfl⟩
       . rw [t1]; exact World.ownsRow_nil _ _ _ _
       . rw [t2]
         unfold takeL takeS
         rw [if_neg (by simp), if_neg (by simp), if_neg HT.out]
         exact HR6.out.below (below_drewN (Below.refl _ wc) nq)
     case inl =>
       have h2 : 0 <= 1 := by omega
       have HT : Hid (takeF D s) := HTF.out (by omega)
       have HRq := fun n => hideF (HR6.out.below (below_drewN (Below.refl _ wc) n))
       clear h2 hUw
       go_wp2_with fail
       go_quiet (fail)
       go_wp2_with fail
       refine (rflush_any (wc.drewN nq) B (colN w5 (colN w2 c2 3) 3) _ _ _ safe ys zs (HRq nq).out (by rw [HLFL.out]; omega) (by rw [HLFL.out]; omega)).mono ?_
       rintro e w7 ⟨rfl, ho7, hR7, hF7, _⟩
       go_wp2
       go_ret
       refine ⟨_, { p with lv := .slice a3 (left.length + 1) k3, vs := p.vs ++ [.slice a2 (D.kp 0 + D.kp 2) k2], wv := .slice none 0 0 }, _, rfl, ?_, ?_, HA6.out, (HF6.out.drewN nq).trans hF7 HA6.out, rfl, rfl, rfl⟩
       . rw [tookW i m HOK.out HT.out]; exact ho7
       . unfold takeL takeS
         rw [if_neg (by simp), if_neg (by simp), if_pos HT.out]
         have hR8 := hR7
         rw [HLFL.out, show D.arr + 2 - 1 = D.arr + 1 by omega] at hR8
         exact (hR8.as (D' := { midP D s with uns := 0, wait := [] }) rfl rfl rfl rfl rfl rfl rfl rfl (fun _ => rfl)).tookF (i := i) (m := m) HOK.out HT.out
     case inr.inl =>
       have g1 : ((U : Int) == 0) = false := by simp; omega
       have g2 : decide ((U : Int) = 0) = false := by simp; omega
       have g3 : decide (D.batch <= U) = true := by simp; omega
       have HT : Hid (takeF D s) := HTF.out (by omega)
       have HRq := fun n => hideF (HR6.out.below (below_drewN (Below.refl _ wc) n))
       clear h1 h2 hUw
       go_wp2_with fail
       go_quiet (fail)
       go_wp2_with fail
       refine (rflush_any (wc.drewN nq) B (colN w5 (colN w2 c2 3) 3) _ _ _ safe ys zs (HRq nq).out (by rw [HLFL.out]; omega) (by rw [HLFL.out]; omega)).mono ?_
       rintro e w7 ⟨rfl, ho7, hR7, hF7, _⟩
       go_wp2
       go_ret
       refine ⟨_, { p with lv := .slice a3 (left.length + 1) k3, vs := p.vs ++ [.slice a2 (D.kp 0 + D.kp 2) k2], wv := .slice none 0 0 }, _, rfl, ?_, ?_, HA6.out, (HF6.out.drewN nq).trans hF7 HA6.out, rfl, rfl, rfl⟩
       . rw [tookW i m HOK.out HT.out]; exact ho7
       . unfold takeL takeS
         rw [if_neg (by simp), if_neg (by simp), if_pos HT.out]
         have hR8 := hR7
         rw [HLFL.out, show D.arr + 2 - 1 = D.arr + 1 by omega] at hR8
         exact (hR8.as (D' := { midP D s with uns := 0, wait := [] }) rfl rfl rfl rfl rfl rfl rfl rfl (fun _ => rfl)).tookF (i := i) (m := m) HOK.out HT.out
     case inr.inr.inl =>
       have g1 : ((U : Int) == 0) = false := by simp; omega
       have g2 : decide ((U : Int) = 0) = false := by simp; omega
       have g3 : decide (D.batch <= U) = false := by simp; omega
       have g4 : decide (D.batch <= D.wait.length + 1) = true := by simp; omega
       have g5 : decide ((D.batch : Int) <= (D.wait.length : Int) + 1) = true := by simp; omega
       have g6 : decide ((D.batch : Int) <= ((D.wait.length + 1 : Nat) : Int)) = true := by simp; omega
       have HT : Hid (takeF D s) := HTF.out (by omega)
       have HRq := fun n => hideF (HR6.out.below (below_drewN (Below.refl _ wc) n))
       clear h1 h2 h3 hUw
       go_wp2_with fail
       go_quiet (fail)
       go_wp2_with fail
       refine (rflush_any (wc.drewN nq) B (colN w5 (colN w2 c2 3) 3) _ _ _ safe ys zs (HRq nq).out (by rw [HLFL.out]; omega) (by rw [HLFL.out]; omega)).mono ?_
       rintro e w7 ⟨rfl, ho7, hR7, hF7, _⟩
       go_wp2
       go_ret
       refine ⟨_, { p with lv := .slice a3 (left.length + 1) k3, vs := p.vs ++ [.slice a2 (D.kp 0 + D.kp 2) k2], wv := .slice none 0 0 }, _, rfl, ?_, ?_, HA6.out, (HF6.out.drewN nq).trans hF7 HA6.out, rfl, rfl, rfl⟩
       . rw [tookW i m HOK.out HT.out]; exact ho7
       . unfold takeL takeS
         rw [if_neg (by simp), if_neg (by simp), if_pos HT.out]
         have hR8 := hR7
         rw [HLFL.out, show D.arr + 2 - 1 = D.arr + 1 by omega] at hR8
         exact (hR8.as (D' := { midP D s with uns := 0, wait := [] }) rfl rfl rfl rfl rfl rfl rfl rfl (fun _ => rfl)).tookF (i := i) (m := m) HOK.out HT.out
end Go.Proofs.YtcpldcojckhapaaGreat
