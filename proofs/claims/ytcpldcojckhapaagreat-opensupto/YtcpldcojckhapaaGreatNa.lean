/-
  
-/
import Derived.Test.YtcpldcojckhapaaGreatN9
import Derived.Test.YtcpldcojckhapaaGreatPf
set_option maxRecDepth 100000
namespace Go.Proofs.YtcpldcojckhapaaGreat
open Go.RowKit
theorem rtake_any (w : World) (B : Nat) (c : Nat -> Nat) (p : Rfm) (D : Dev) (left : List (List Int)) (safe : Nat) (ys : Nat -> ByteArray) (zs : Nat -> Bool) (i : Nat) (x : Nat × Nat × ByteArray) (h : RefIn w B c p D left safe ys zs) (hok : DevOk D) (hi : i < D.nl) (hk : (D.ln i).kind = 0) (hx : Pl.May x) (hla : left.length = D.arr + 1) (ha : D.arr <= 900000) :
    Calls Tryz.prog 70 #[.pointer (some ⟨p.r, 0, none⟩), .int .i64 (i : Nat), .agg #[.int .i64 (x.1 : Nat), .int .i64 (x.2.1 : Nat), .string x.2.2]] w (TakeRef w B c p D left safe ys zs i x.1 x.2.1 x.2.2) := by
  obtain ⟨m, u, s⟩ := x
  have h1 : 1 <= s.size := hx.2.2.1
  have h2 : s.size <= 253 := hx.2.2.2
  by_cases hu : u = D.unit
  . subst hu
    exact rtake_yes w B c p D left safe ys zs i m s h hok hi hk hx.1 h1 h2 hla ha
  . exact rtake_no w B c p D left safe ys zs i m u s h hi hok.nl.2 hk h1 hu
theorem wpList_append_srck {P : Program} {w : World} {ops : Array Oper} {rest : List Oper} {o : Oper} {a : Act} {Q : Exit -> Act -> World -> Prop} (hgd : o.guard = none) (s x : Operand) (t : TypeId)
    (ho : o.op = .call { callee := .builtin .append, args := #[s, x], argTypes := #[t, t] })
    (base : Nat) (e : TypeId) (i : TypeInfo) (z : Value) (size bytes : Nat) (ht : P.underlying t = some (.slice e)) (hi : P.info? e = some i) (hz : i.zero = some z)
    (hsize : i.size = size) (hby : i.bytes = bytes) (hzs : z.cells.size = size) (hsz : 0 < size)
    (v : Value) (n : Nat) (xs : List Value) (hs : a.eval s = v) (hown : w.ownsRow base e size v n xs)
    (v2 : Value) (m : Nat) (news : List Value) (hx : a.eval x = v2) (hsrc : Src w v2 m news) (hl : news.length = m * size) (h1 : ∀ u ∈ news, u.oneCell' = true)
    (h63 : n + m <= maxLen) (hbytes : (n + m) * bytes <= 140737488355328) (hbase : base <= w.heap.size)
    (h : ∀ v' w', w'.ownsRow base e size v' (n + m) (xs ++ news) -> w.grownBy w' v.ownBlock -> (∀ g', v'.ownBlock = some g' -> v.ownBlock = some g' ∨ w.heap.size <= g') -> wpList P ops Q rest (a.put o.dst v') w') : wpList P ops Q (o :: rest) a w := by
  rcases hsrc with ⟨rfl, rfl, rfl⟩ | ⟨ad, c, rfl, hc⟩
  . refine wpList_append_own_none hgd s x t ho base e i size ht hi v n xs hs hown hx (h v w ?_ ⟨rfl, rfl, rfl, Nat.le_refl _, fun _ _ _ => rfl⟩ (fun _ hg => .inl hg))
    rw [List.append_nil, Nat.add_zero]; exact hown
  . exact wpList_append_keep hgd s x t ho base e i z size bytes ht hi hz hsize hby hzs hsz v n xs hs hown ad m c news hx hl hc h1 h63 hbytes hbase (fun v' w' h2 h3 _ h5 => h v' w' h2 h3 h5)
theorem encW_len (l : List (Int × Int × ByteArray)) : (l.flatMap encW).length = l.length * 3 := by
  induction l with
  | nil => rfl
  | cons x l ih => rw [List.flatMap_cons, List.length_append, ih, List.length_cons]; show 3 + _ = _; omega
theorem encW_one (l : List (Int × Int × ByteArray)) : ∀ u ∈ l.flatMap encW, u.oneCell' = true := by
  intro u hu
  obtain ⟨x, _, hx⟩ := List.mem_flatMap.1 hu
  simp only [encW, List.mem_cons, List.not_mem_nil, or_false] at hx
  rcases hx with rfl | rfl | rfl <;> rfl
section
variable {w w' : World} {B : Nat} {c : Nat -> Nat} {p : Rfm} {D : Dev} {left : List (List Int)} {safe : Nat} {ys : Nat -> ByteArray} {zs : Nat -> Bool}
theorem RefIn.chgY {ys' : Nat -> ByteArray} (h : RefIn w B c p D left safe ys zs) (hc : Chg1 p.yb w w') (hG : Grid w' p.yb 9 D.nl 1 (fun k _ => .string (ys' k))) : RefIn w' B c p D left safe ys' zs := by
  obtain ⟨cb, hcb⟩ := h.lnb
  obtain ⟨cy, hcy⟩ := h.ybs.block
  have hne : ∀ {g : Nat} {cur : Array Value} {t : TypeId}, w.heap[g]? = some (.cells cur t (0, 0)) -> t ≠ 9 -> w'.heap[g]? = w.heap[g]? := fun hg ht => hc.block _ (lt_of_block hg) (ne_types hg hcy ht)
  refine ⟨(hne h.dev (by decide)).trans h.dev, fun i hi => ?_, h.inj, ⟨cb, (hne hcb (by decide)).trans hcb⟩, fun i hi => ?_, hG, ?_, own_same h.wt fun g hg => ?_, own_same h.lf fun g hg => ?_, fun q l hq => ?_, h.cr, h.cG, h.cy, h.cz, h.cw, h.cl, h.cb, h.lo.1, h.lo.2.1, h.lo.2.2.1, h.lo.2.2.2.1, Nat.le_trans h.lo.2.2.2.2 hc.size⟩
  . obtain ⟨cg, hcg⟩ := (h.tab i hi).block
    exact (h.tab i hi).same (hne hcg (by decide))
  . have := h.lns i hi
    unfold World.cell? at this ⊢
    simp only at this ⊢
    rw [hne hcb (by decide)]; exact this
  . obtain ⟨cg, hcg⟩ := h.zbs.block
    exact h.zbs.same (hne hcg (by decide))
  . obtain ⟨cg, hcg⟩ := own_block h.wt g hg
    exact hne hcg (by decide)
  . obtain ⟨cg, hcg⟩ := own_block h.lf g hg
    exact hne hcg (by decide)
  . obtain ⟨v, h1, h2, h3⟩ := h.lfs q l hq
    refine ⟨v, h1, own_same h2 fun g hg => ?_, h3⟩
    obtain ⟨cg, hcg⟩ := own_block h2 g hg
    exact hne hcg (by decide)
theorem RefIn.chgZ {zs' : Nat -> Bool} (h : RefIn w B c p D left safe ys zs) (hc : Chg1 p.zb w w') (hG : Grid w' p.zb 4 D.nl 1 (fun k _ => .bool (zs' k))) : RefIn w' B c p D left safe ys zs' := by
  obtain ⟨cb, hcb⟩ := h.lnb
  obtain ⟨cy, hcy⟩ := h.zbs.block
  have hne : ∀ {g : Nat} {cur : Array Value} {t : TypeId}, w.heap[g]? = some (.cells cur t (0, 0)) -> t ≠ 4 -> w'.heap[g]? = w.heap[g]? := fun hg ht => hc.block _ (lt_of_block hg) (ne_types hg hcy ht)
  refine ⟨(hne h.dev (by decide)).trans h.dev, fun i hi => ?_, h.inj, ⟨cb, (hne hcb (by decide)).trans hcb⟩, fun i hi => ?_, ?_, hG, own_same h.wt fun g hg => ?_, own_same h.lf fun g hg => ?_, fun q l hq => ?_, h.cr, h.cG, h.cy, h.cz, h.cw, h.cl, h.cb, h.lo.1, h.lo.2.1, h.lo.2.2.1, h.lo.2.2.2.1, Nat.le_trans h.lo.2.2.2.2 hc.size⟩
  . obtain ⟨cg, hcg⟩ := (h.tab i hi).block
    exact (h.tab i hi).same (hne hcg (by decide))
  . have := h.lns i hi
    unfold World.cell? at this ⊢
    simp only at this ⊢
    rw [hne hcb (by decide)]; exact this
  . obtain ⟨cg, hcg⟩ := h.ybs.block
    exact h.ybs.same (hne hcg (by decide))
  . obtain ⟨cg, hcg⟩ := own_block h.wt g hg
    exact hne hcg (by decide)
  . obtain ⟨cg, hcg⟩ := own_block h.lf g hg
    exact hne hcg (by decide)
  . obtain ⟨v, h1, h2, h3⟩ := h.lfs q l hq
    refine ⟨v, h1, own_same h2 fun g hg => ?_, h3⟩
    obtain ⟨cg, hcg⟩ := own_block h2 g hg
    exact hne hcg (by decide)
theorem RefIn.yPut {i : Nat} (h : RefIn w B c p D left safe ys zs) (hi : i < D.nl) (x : ByteArray) : RefIn (w.setCell ⟨p.yb, i, none⟩ (.string x)) B c p D left safe (fun k => if k = i then x else ys k) zs := by
  have hG := h.ybs.set (i := i) (j := 0) hi (by omega) (.string x)
  rw [Nat.mul_one, Nat.add_zero] at hG
  refine h.chgY ((Chg1.refl _ _).setCell _ _) (hG.congr fun a b _ hb => ?_)
  obtain rfl : b = 0 := by omega
  by_cases e : a = i <;> simp [e]
theorem RefIn.zPut {i : Nat} (h : RefIn w B c p D left safe ys zs) (hi : i < D.nl) (x : Bool) : RefIn (w.setCell ⟨p.zb, i, none⟩ (.bool x)) B c p D left safe ys (fun k => if k = i then x else zs k) := by
  have hG := h.zbs.set (i := i) (j := 0) hi (by omega) (.bool x)
  rw [Nat.mul_one, Nat.add_zero] at hG
  refine h.chgZ ((Chg1.refl _ _).setCell _ _) (hG.congr fun a b _ hb => ?_)
  obtain rfl : b = 0 := by omega
  by_cases e : a = i <;> simp [e]
end
theorem spl_le (s : ByteArray) : ∀ (f t : Nat), t <= s.size -> (Pl.spl s f t).2 <= s.size := by
  intro f
  induction f with
  | zero => intro t h; exact h
  | succ f ih =>
    intro t h
    rw [Pl.spl]
    by_cases hw : Pl.wholeAt s t = 0
    . rw [if_pos hw]; exact h
    . rw [if_neg hw]
      refine ih _ ?_
      have := (Pl.whole_bd (s.extract t s.size) hw).2.2.1
      rw [ByteArray.size_extract] at this
      have e : Pl.wholeAt s t = Pl.whole (s.extract t s.size) := rfl
      omega
theorem row_src {w : World} {B : Nat} {e : TypeId} {size : Nat} {v : Value} {n : Nat} {xs : List Value} (h : w.ownsRow B e size v n xs) : Src w v n xs := by
  rcases h.2 with ⟨rfl, rfl⟩ | ⟨g, cap, cur, rfl, hb, hg, h1, h2, h3, h4⟩
  . exact .inl ⟨rfl, rfl, List.eq_nil_of_length_eq_zero (by have := h.1; omega)⟩
  . exact .inr ⟨_, _, rfl, h.cells rfl⟩
theorem takeW_len {D : Dev} (hok : DevOk D) (i m u : Nat) (s : ByteArray) : (takeW D i m u s).length <= 9 := by
  have := hok.wlen
  have := hok.batch
  unfold takeW
  split
  . simp
  . split
    . simp
    . split
      . rw [List.length_append, List.length_singleton]; omega
      . simp
theorem takeP_arr (D : Dev) (i m u : Nat) (s : ByteArray) : (takeP D i m u s).1.arr = if u ≠ D.unit then D.arr else D.arr + 1 := by
  unfold takeP
  split
  . rfl
  . split
    . rfl
    . split
      . rw [(flushP_same _).2]; rfl
      . rfl
theorem refs_ok {D : Dev} (hok : DevOk D) (i : Nat) (left : List (List Int)) (safe : Nat) (hl : left.length = D.arr + 1) : ∀ (r fs : List (Nat × Nat × ByteArray)), fs = r.reverse -> (refsP D i left safe fs).1 = (takesP D i fs).1 /\ DevOk (takesP D i fs).1 /\ (refsP D i left safe fs).2.2.1.length = (takesP D i fs).1.arr + 1 /\ (refsP D i left safe fs).2.1.length <= 9 * fs.length := by
  intro r
  induction r with
  | nil => rintro fs rfl; exact ⟨rfl, hok, hl, by simp [refsP]⟩
  | cons f r ih =>
    rintro fs rfl
    rw [List.reverse_cons, refsP_snoc, takesP_snoc]
    obtain ⟨h1, h2, h3, h4⟩ := ih r.reverse rfl
    rw [h1]
    refine ⟨rfl, takeP_ok h2 _ _ _ _, ?_, ?_⟩
    . show (takeL _ _ _ _).length = (takeP _ _ _ _ _).1.arr + 1
      rw [takeP_arr]
      unfold takeL
      split
      . exact h3
      . rw [List.length_append, h3]; rfl
    . have := takeW_len h2 i f.1 f.2.1 f.2.2
      show ((refsP D i left safe r.reverse).2.1 ++ takeW _ _ _ _ _).length <= _
      rw [List.length_append, List.length_append, List.length_singleton]; omega
theorem lineP_kinds (D : Dev) (i : Nat) (s : ByteArray) (hk : (D.ln i).kind <= 1) (a : Nat) : ((lineP D i s).ln a).kind = (D.ln a).kind := by
  by_cases e : a = i
  . subst e
    show (if a = a then _ else _ : Ln).kind = _
    rw [if_pos rfl]
    split
    . rfl
    . split
      . rfl
      . unfold heardP
        split <;> (show 0 = _; omega)
  . show (if a = i then _ else _ : Ln).kind = _
    rw [if_neg e]
set_option maxHeartbeats 4000000 in
theorem rfeed_any (w : World) (B : Nat) (c : Nat -> Nat) (p : Rfm) (D : Dev) (left : List (List Int)) (safe : Nat) (ys : Nat -> ByteArray) (zs : Nat -> Bool) (i : Nat) (s : ByteArray) (h : RefIn w B c p D left safe ys zs) (hok : DevOk D) (hi : i < D.nl) (hk : (D.ln i).kind <= 1) (hy : ys i = ⟨#[]⟩) (hz : zs i = false) (hb : (D.ln i).bytes = ⟨#[]⟩) (hbr : (D.ln i).broken = false) (hs : s.size <= 4194304) (hla : left.length = D.arr + 1) (ha : D.arr <= 300000) :
    Calls Tryz.prog 32 #[.pointer (some ⟨p.r, 0, none⟩), .int .i64 (i : Nat), .string s] w fun e w' => ∃ v p' c' ys' zs', e = .returned (.tuple #[v, .int .i64 0]) /\ w'.ownsRow w.heap.size 113 3 v (refsP (lineP D i s) i left safe (asksP D i s)).2.1.length ((refsP (lineP D i s) i left safe (asksP D i s)).2.1.flatMap encW) /\
      RefIn w' B c' p' (refsP (lineP D i s) i left safe (asksP D i s)).1 (refsP (lineP D i s) i left safe (asksP D i s)).2.2.1 (refsP (lineP D i s) i left safe (asksP D i s)).2.2.2 ys' zs' /\ Agr w c c' /\ Fc c 3 w w' /\ p'.r = p.r /\ p'.lb = p.lb /\ p'.cap = p.cap /\ ∀ g, v.ownBlock = some g -> c' g = 9 := by
  obtain ⟨i1, qi, qz0, qz1, qz2⟩ := info_parts Tryz.infoE113
  obtain ⟨_, _, _, c7, _, c13, c14, _, _, _, _, _, hrl⟩ := h.cells
  have y0 : w.cell? ⟨p.yb, i, none⟩ = some (.string ⟨#[]⟩) := by have := h.ybs.cell (i := i) (j := 0) hi (by omega); rw [Nat.mul_one, Nat.add_zero, hy] at this; exact this
  have z0 : w.cell? ⟨p.zb, i, none⟩ = some (.bool false) := by have := h.zbs.cell (i := i) (j := 0) hi (by omega); rw [Nat.mul_one, Nat.add_zero, hz] at this; exact this
  have yf := fun j => h.ybs.frozen j
  have hyl := h.ybs.lt
  have hln := h.lns i hi
  have hnl := hok.nl
  have hiI : (i : Int) < (D.nl : Int) := by omega
  have HR := hideF h
  have HOK := hideF hok
  have hlim : ¬ 9223372036854775807 < (ByteArray.mk #[]).size + s.size := by show ¬ _ < 0 + _; omega
  have hyr : p.yb ≠ p.r := fun e => by
    obtain ⟨cy, hcy⟩ := h.ybs.block
    exact ne_types hcy h.dev (by decide) e
  obtain ⟨kd, hkd⟩ : ∃ kd, kd = (D.ln i).kind := ⟨_, rfl⟩
  rw [<- hkd] at hln hk
  have HKD := hideF hkd
  have HB := hideF hb
  have HBR := hideF hbr
  have HLA := hideF hla
  clear h hok hkd hb hbr hla hy hz
  rcases (show kd = 1 ∨ kd = 0 by omega) with rfl | rfl
  . go_enter Tryz.func32, Tryz.ntmps32
    go_wp2_with fail
    go_region
    obtain ⟨V, hV⟩ : ∃ V, V = (w.setCell ⟨p.yb, i, none⟩ (.string (⟨#[]⟩ ++ s))).drew := ⟨_, rfl⟩
    have hRV : RefIn V B c p D left safe (fun k => if k = i then ⟨#[]⟩ ++ s else ys k) zs := by rw [hV]; exact (HR.out.yPut hi _).below (Below.refl _ _).drew
    have hFV : Fc c 3 w V := by rw [hV]; exact ((Fc.refl c 3 w).setCell p.yb i (.inr HR.out.cy) _).then_below (Below.refl _ _).drew
    rw [<- hV]
    obtain ⟨_, _, _, d7, _, _, _, _, _, _, _, _, hrl5⟩ := hRV.cells
    have dln := hRV.lns i hi
    rw [<- HKD.out] at dln
    have HRV := hideF hRV
    have HFV := hideF hFV
    clear hRV hFV hV c7 c13 c14 y0 z0 yf hln
    go_wp2
    go_ret2
    have eA : asksP D i s = [] := by unfold asksP; rw [if_pos (.inl HKD.out.symm)]
    rw [eA]
    refine ⟨.slice none 0 0, p, c, (fun k => if k = i then ⟨#[]⟩ ++ s else ys k), zs, rfl, World.ownsRow_nil _ _ _ _, ?_, Agr.refl _ _, HFV.out, rfl, rfl, rfl, fun g hg => by simp [Value.ownBlock] at hg⟩
    exact HRV.out.as rfl rfl rfl rfl rfl rfl rfl rfl (lineP_kinds D i s (by rw [<- HKD.out]; omega))
  . go_enter Tryz.func32, Tryz.ntmps32
    go_wp2_with fail
    go_region
    obtain ⟨V, hV⟩ : ∃ V, V = (w.setCell ⟨p.yb, i, none⟩ (.string (⟨#[]⟩ ++ s))).drew := ⟨_, rfl⟩
    have hRV : RefIn V B c p D left safe (fun k => if k = i then ⟨#[]⟩ ++ s else ys k) zs := by rw [hV]; exact (HR.out.yPut hi _).below (Below.refl _ _).drew
    have hFV : Fc c 3 w V := by rw [hV]; exact ((Fc.refl c 3 w).setCell p.yb i (.inr HR.out.cy) _).then_below (Below.refl _ _).drew
    rw [<- hV]
    have e0 : (⟨#[]⟩ : ByteArray) ++ s = s := ByteArray.empty_append
    have hsV : V.heap.size = w.heap.size := by rw [hV]; simp
    obtain ⟨_, _, _, d7, _, d13, _, _, _, _, _, _, hrl5⟩ := hRV.cells
    have dln := hRV.lns i hi
    rw [<- HKD.out] at dln
    have dy : V.cell? ⟨p.yb, i, none⟩ = some (.string s) := by have := hRV.ybs.cell (i := i) (j := 0) hi (by omega); rw [Nat.mul_one, Nat.add_zero, if_pos rfl, e0] at this; exact this
    have HRV := hideF hRV
    have HFV := hideF hFV
    clear hRV hFV hV c7 c13 c14 y0 z0 yf hln
    go_wp2_with fail
    refine (refSplit_core s V hs).mono ?_
    rintro e w1 ⟨v1, n1, acc, t, k, rfl, hown1, hspl, hn1, hb1⟩
    obtain ⟨a1, k1, rfl, _⟩ := own_view hown1
    have hts : t ≤ s.size := by have := spl_le s (s.size + 1) 0 (Nat.zero_le _); have e2 : (Pl.spl s (s.size + 1) 0).2 = t := by rw [show Pl.spl s (s.size + 1) 0 = (acc, t) from hspl.1]
                                omega
    have ecol : colN V c 9 = colN w c 9 := by unfold colN; rw [hsV]
    have HR1 : Hid (RefIn w1 B (colN w c 9) p D left safe (fun k => if k = i then ⟨#[]⟩ ++ s else ys k) zs) := HRV.out.frame (k := 9) (Fc.of_below hb1) (by rw [<- ecol]; exact colN_agr V c 9) (by omega) (by omega) (by omega)
    have HF1 := hideF (HFV.out.then_below hb1)
    have HO1 := hideF hown1
    have HSP := hideF hspl
    obtain ⟨_, _, _, f7, _, f13, f14, _, _, _, _, _, hrl1⟩ := HR1.out.cells
    have fy : w1.cell? ⟨p.yb, i, none⟩ = some (.string s) := ((bcell hb1).1 _ _ HRV.out.ybs.lt).trans dy
    have fyf := fun j => HR1.out.ybs.frozen j
    have fzf := fun j => HR1.out.zbs.frozen j
    have hs1 := hb1.size
    have fz : ∃ b, w1.cell? ⟨p.zb, i, none⟩ = some (.bool b) := ⟨_, by have := HR1.out.zbs.cell (i := i) (j := 0) hi (by omega); rw [Nat.mul_one, Nat.add_zero] at this; exact this⟩
    obtain ⟨zb0, fz⟩ := fz
    clear hown1 hspl hb1 d7 d13 dln dy
    have htI : (t : Int) <= (s.size : Int) := by omega
    go_wp2_with fail
    go_region
    obtain ⟨V2, hV2⟩ : ∃ V, V = (w1.setCell ⟨p.yb, i, none⟩ (.string (s.extract t s.size))).drew := ⟨_, rfl⟩
    have hR2 : RefIn V2 B (colN w c 9) p D left safe (fun j => if j = i then s.extract t s.size else if j = i then ⟨#[]⟩ ++ s else ys j) zs := by rw [hV2]; exact (HR1.out.yPut hi _).below (Below.refl _ _).drew
    have hF2 : Fc c 3 w V2 := by rw [hV2]; exact (HF1.out.setCell p.yb i (.inr HR.out.cy) _).then_below (Below.refl _ _).drew
    have hO2 : V2.ownsRow V.heap.size 94 3 (.slice a1 n1 k1) n1 acc := by
      rw [hV2]
      refine own_same HO1.out fun g hg => ?_
      show (w1.setCell ⟨p.yb, i, none⟩ _).heap[g]? = _
      exact heap_setCell_other w1 _ _ _ (fun e => by have := (HO1.out.lt g hg).1; have := HR.out.ybs.lt; have e' : g = p.yb := e; omega)
    rw [<- hV2]
    have hsV2 : V2.heap.size = w1.heap.size := by rw [hV2]; simp
    obtain ⟨_, _, _, _, _, _, g14, _, _, _, _, _, hrl2⟩ := hR2.cells
    have gzf := fun j => hR2.zbs.frozen j
    have gz : V2.cell? ⟨p.zb, i, none⟩ = some (.bool (zs i)) := by have := hR2.zbs.cell (i := i) (j := 0) hi (by omega); rw [Nat.mul_one, Nat.add_zero] at this; exact this
    have HR2 := hideF hR2
    have HF2 := hideF hF2
    have HO2 := hideF hO2
    clear hR2 hF2 hO2 hV2 f7 f13 f14 fy fyf fzf fz
    go_upto_region 11 with fail
    obtain ⟨V3, hV3⟩ : ∃ V, V = V2.setCell ⟨p.zb, i, none⟩ (.bool (k != 0)) := ⟨_, rfl⟩
    obtain ⟨ys2, hys2⟩ : ∃ f, f = (fun j => if j = i then s.extract t s.size else if j = i then ⟨#[]⟩ ++ s else ys j) := ⟨_, rfl⟩
    obtain ⟨zs2, hzs2⟩ : ∃ f, f = (fun j => if j = i then (k != 0) else zs j) := ⟨_, rfl⟩
    obtain ⟨fs, hfs⟩ : ∃ fs, fs = framesOf s := ⟨_, rfl⟩
    obtain ⟨D0, hD0⟩ : ∃ D0, D0 = lineP D i s := ⟨_, rfl⟩
    have hacc : acc = fs.flatMap Pl.frC := by rw [hfs, <- (framesOf_spec _).1, HSP.out.1]
    have hn : n1 = fs.length := by rw [hfs]; exact frames_len HO2.out (by rw [hacc, hfs])
    have hask : asksP D i s = fs := by unfold asksP; rw [if_neg (by rw [<- HKD.out, HBR.out]; simp), HB.out, e0, hfs]
    have hmay : ∀ x ∈ fs, Pl.May x := by rw [hfs]; exact (framesOf_spec s).2.1
    have hR3 : RefIn V3 B (colN w c 9) p D0 left safe ys2 zs2 := by
      rw [hV3, hys2, hzs2, hD0]
      exact (HR2.out.zPut hi (k != 0)).as (D' := lineP D i s) rfl rfl rfl rfl rfl rfl rfl rfl (lineP_kinds D i s (by rw [<- HKD.out]; omega))
    have hF3 : Fc c 3 w V3 := by rw [hV3]; exact HF2.out.setCell p.zb i (.inr HR.out.cz) _
    have hO3 : V3.ownsRow w.heap.size 94 3 (.slice a1 fs.length k1) fs.length (fs.flatMap Pl.frC) := by
      rw [hV3, <- hn, <- hacc, <- hsV]
      refine own_same HO2.out fun g hg => heap_setCell_other V2 _ _ _ (fun e => by have := (HO2.out.lt g hg).1; have := HR.out.zbs.lt; have e' : g = p.zb := e; omega)
    rw [<- hV3, hn]
    have HASK : Hid (asksP D i s = fs /\ lineP D i s = D0) := ⟨hask, hD0.symm⟩
    have hok0 : DevOk D0 := by rw [hD0]; exact lineP_ok HOK.out i s
    have HRK := hideF (fun q => refs_ok hok0 i left safe (by rw [hD0]; exact HLA.out) (fs.take q).reverse (fs.take q) (List.reverse_reverse _).symm)
    have HTK := hideF (takesP_ok hok0 i fs)
    have hk0 : (D0.ln i).kind = 0 := by rw [hD0, lineP_kinds D i s (by rw [<- HKD.out]; omega)]; exact HKD.out.symm
    have hnl0 : i < D0.nl := by rw [hD0]; exact hi
    have har0 : D0.arr <= 300000 := by rw [hD0]; exact ha
    have hC1 : ∀ g, Value.ownBlock (.slice a1 fs.length k1) = some g -> colN w c 9 g = 9 := fun g hg => colN_new w c 9 g (hO3.lt g hg).1
    have HK0 := hideF hk0
    have HR3 := hideF hR3
    have HF3 := hideF hF3
    have HO3 := hideF hO3
    have HC1 := hideF hC1
    have HM := hideF hmay
    have hfl : fs.length <= 524288 := by omega
    clear hR3 hF3 hO3 hC1 hmay hV3 hys2 hzs2 hfs hD0 hacc hask hk0 hok0 g14 gzf gz
    subst hn
    go_wp2_with fail
    go_loopw [12, 11, 13] (fun q v x wr => ∃ (n : Nat) (p' : Rfm) (c' : Nat -> Nat), n <= fs.length /\ q = .int .i64 (n : Nat) /\ wr.ownsRow w.heap.size 113 3 v (refsP D0 i left safe (fs.take n)).2.1.length ((refsP D0 i left safe (fs.take n)).2.1.flatMap encW) /\ RefIn wr B c' p' (refsP D0 i left safe (fs.take n)).1 (refsP D0 i left safe (fs.take n)).2.2.1 (refsP D0 i left safe (fs.take n)).2.2.2 ys2 zs2 /\ wr.ownsRow w.heap.size 94 3 (.slice a1 fs.length k1) fs.length (fs.flatMap Pl.frC) /\ (∀ g, Value.ownBlock (.slice a1 fs.length k1) = some g -> c' g = 9) /\ (∀ g, v.ownBlock = some g -> c' g = 9) /\ Agr w c c' /\ Fc c 3 w wr /\ p'.r = p.r /\ p'.lb = p.lb /\ p'.cap = p.cap) (fun q _ _ _ => fs.length - (intOf q).toNat)
    case atStart => exact ⟨0, p, _, Nat.zero_le _, rfl, World.ownsRow_nil _ _ _ _, HR3.out, HO3.out, HC1.out, fun g hg => by simp [Value.ownBlock] at hg, colN_agr w c 9, HF3.out, rfl, rfl, rfl⟩
    case round =>
      obtain ⟨n, p2, c2, hn, rfl, hown, hR, hfr, hcf, hcv, hA, hF, r1, r2, r3⟩ := hrel
      by_cases hlt : n < fs.length
      . obtain ⟨x, hx⟩ : ∃ x, fs[n]? = some x := ⟨_, List.getElem?_eq_getElem hlt⟩
        have hxm := HM.out x (List.mem_of_getElem? hx)
        have e1 : fs.take (n + 1) = fs.take n ++ [x] := take_succ_at fs n x hx
        have hsn := refsP_snoc D0 i left safe (fs.take n) x
        rw [<- e1] at hsn
        obtain ⟨j1, j2, j3, j4⟩ := HRK.out n
        obtain ⟨k1', k2', k3', k4'⟩ := HTK.out n hn
        obtain ⟨D2, hD2⟩ : ∃ D2, D2 = (takesP D0 i (fs.take n)).1 := ⟨_, rfl⟩
        rw [<- hD2] at j1 j2 j3 k1' k2' k3'
        rw [j1] at hR hsn
        obtain ⟨W2, hW2⟩ : ∃ W2, W2 = (refsP D0 i left safe (fs.take n)).2.1 := ⟨_, rfl⟩
        obtain ⟨L2, hL2⟩ : ∃ L2, L2 = (refsP D0 i left safe (fs.take n)).2.2.1 := ⟨_, rfl⟩
        obtain ⟨S2, hS2⟩ : ∃ S2, S2 = (refsP D0 i left safe (fs.take n)).2.2.2 := ⟨_, rfl⟩
        rw [<- hW2] at hown hsn j4
        rw [<- hL2] at hR hsn j3
        rw [<- hS2] at hR hsn
        have hk4 := takeW_len j2 i x.1 x.2.1 x.2.2
        rw [List.length_take] at j4
        have hWl : W2.length <= 9 * 524288 := by omega
        obtain ⟨g1, rfl, hg1, f0, f1, f2⟩ := frames_at hfr n x hx
        have HTX := hideF (rtake_any wr B c2 p2 D2 L2 S2 ys2 zs2 i x hR j2 (by rw [k2'.nl]; exact hnl0) (by rw [k2'.ln]; exact HK0.out) hxm j3 (by omega))
        rw [r1] at HTX
        have HOWN := hideF hown
        have HFR := hideF hfr
        have HCF := hideF hcf
        have HCV := hideF hcv
        have HA := hideF hA
        have HF := hideF hF
        have HSN := hideF hsn
        have hswr := hF.size
        have HR0 := hideF hR.lo.2.2.2.2
        clear hown hR hfr hcf hcv hA hF hsn e1 hxm j1 j2 j3 k1' k2' k3' k4' hx hD2 hW2 hL2 hS2
        go_wp2_with fail
        clear f0 f1 f2
        refine HTX.out.mono ?_
        rintro e w2 ⟨v2, p3, c3, rfl, hown2, hR3, hA3, hF3', q1, q2, q3⟩
        obtain ⟨N2, hN2⟩ : ∃ N2, N2 = takeW D2 i x.1 x.2.1 x.2.2 := ⟨_, rfl⟩
        rw [<- hN2] at hown2 hk4
        obtain ⟨a3, b3, rfl, _⟩ := own_view hown2
        have HN2 := hideF hN2
        have HR3' := hideF hR3
        have HA2 := hideF (HA.out.trans hA3 hswr)
        have HF2' := hideF (HF.out.trans hF3' HA.out)
        have HOW2 := hideF (hF3'.own HOWN.out (by decide) (fun g hg => by rw [HCV.out g hg]; omega))
        have HFR2 := hideF (hF3'.own HFR.out (by decide) (fun g hg => by rw [HCF.out g hg]; omega))
        have HCV2 : Hid (∀ g, u11.ownBlock = some g -> c3 g = 9) := fun g hg => by rw [hA3 g (HOWN.out.lt g hg).2]; exact HCV.out g hg
        have HCF2 : Hid (∀ g, Value.ownBlock (.slice (some ⟨g1, 0, none⟩) fs.length k1) = some g -> c3 g = 9) := fun g hg => by rw [hA3 g (HFR.out.lt g hg).2]; exact HCF.out g hg
        have HSR := hideF (row_src hown2)
        have hsw2 := hF3'.size
        have hR1 := q1.trans r1
        have hR2' := q2.trans r2
        have hR3'' := q3.trans r3
        clear hown2 hR3 hA3 hF3' hN2
        go_wp2_with (at_builtin; go_must (refine wpList_append_srck rfl (.tmp 105) (.tmp 106) 46 rfl w.heap.size 113 i1 _ 3 32 Tryz.underlying46 qi qz0 qz1 qz2 rfl (by decide) u11 W2.length (W2.flatMap encW) rfl HOW2.out _ N2.length (N2.flatMap encW) rfl HSR.out (encW_len _) (encW_one _) (by unfold maxLen; omega) (by omega) (by omega) ?_; intro v4 w4 hown4 hgrow4 hfr4))
        go_roundw
        case rel =>
          have hF4 : Fc c3 9 w2 w4 := (Fc.refl c3 9 w2).grown hgrow4 (fun g hg => .inr (HCV2.out g hg))
          refine ⟨n + 1, p3, colN w2 c3 9, by omega, by go_num, ?_, ?_, own_same HFR2.out (fun g hg => ?_), fun g hg => by rw [colN_agr w2 c3 9 g (HFR2.out.lt g hg).2]; exact HCF2.out g hg, fun g hg => ?_, HA2.out.trans (colN_agr w2 c3 9) (by omega), HF2'.out.grown hgrow4 (fun g hg => .inl (HOW2.out.lt g hg).1), hR1, hR2', hR3''⟩
          . rw [HSN.out, <- HN2.out, List.length_append, List.flatMap_append]; exact hown4
          . rw [HSN.out]
            exact HR3'.out.frame (k := 9) hF4 (colN_agr w2 c3 9) (by omega) (by omega) (by omega)
          . obtain ⟨cg, hcg⟩ := own_block HFR2.out g hg
            refine hgrow4.block g (lt_of_block hcg) (fun e => ?_)
            obtain ⟨ch, hch⟩ := own_block HOW2.out g e.symm
            exact ne_types hcg hch (by decide) rfl
          . rcases hfr4 g hg with r | r
            . rw [colN_agr w2 c3 9 g (HOW2.out.lt g r).2]; exact HCV2.out g r
            . exact colN_new w2 c3 9 g r
        case measure => simp [intOf]; omega
      . obtain rfl : n = fs.length := by omega
        rw [List.take_length] at hown hR
        have HO := hideF hown
        have HR9 := hideF hR
        have HA := hideF hA
        have HF := hideF hF
        have HCV := hideF hcv
        obtain ⟨a8, p8, rfl, _⟩ := own_view hown
        clear hown hR hF hfr hA hcv hcf
        go_wp2
        go_ret2
        rw [HASK.out.1, HASK.out.2]
        exact ⟨_, p2, c2, ys2, zs2, rfl, HO.out, HR9.out, HA.out, HF.out, r1, r2, r3, HCV.out⟩
end Go.Proofs.YtcpldcojckhapaaGreat
