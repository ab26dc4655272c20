/-
  
-/
import Derived.Laws.AppendOwnNone
import Derived.Laws.AppendOwn
import Derived.Test.YtcpldcojckhapaaGreatJ35
import Derived.Test.YtcpldcojckhapaaGreatJ36
import Derived.Test.YtcpldcojckhapaaGreatJ37
import Derived.Test.YtcpldcojckhapaaGreatJ16
set_option maxRecDepth 100000
namespace Go.Proofs.YtcpldcojckhapaaGreat
open Go
theorem wpList_append_any {P : Program} {w : World} {ops : Array Oper} {rest : List Oper} {o : Oper} {a : Act} {Q : Exit -> Act -> World -> Prop} (hgd : o.guard = none) (s x : Operand) (t : TypeId)
    (ho : o.op = .call { callee := .builtin .append, args := #[s, x], argTypes := #[t, t] })
    (base base2 : Nat) (e : TypeId) (i : TypeInfo) (z : Value) (size bytes : Nat) (ht : P.underlying t = some (.slice e)) (hi : P.info? e = some i) (hz : i.zero = some z)
    (hsize : i.size = size) (hby : i.bytes = bytes) (hzs : z.cells.size = size) (hsz : 0 < size)
    (v : Value) (n : Nat) (xs : List Value) (hs : a.eval s = v) (hown : w.ownsRow base e size v n xs)
    (v2 : Value) (m : Nat) (news : List Value) (hx : a.eval x = v2) (hown2 : w.ownsRow base2 e size v2 m news) (h1 : ∀ u ∈ news, u.oneCell' = true)
    (h63 : n + m <= maxLen) (hbytes : (n + m) * bytes <= 140737488355328) (hbase : base <= w.heap.size)
    (h : ∀ v' w', w'.ownsRow base e size v' (n + m) (xs ++ news) -> w.grownBy w' v.ownBlock -> wpList P ops Q rest (a.put o.dst v') w') : wpList P ops Q (o :: rest) a w := by
  rcases hown2.2 with ⟨rfl, rfl⟩ | ⟨g, cap, cur, rfl, hb, hg, g1, g2, g3, g4⟩
  . have hn : news = [] := List.eq_nil_of_length_eq_zero (by rw [hown2.1]; simp)
    subst hn
    refine wpList_append_own_none hgd s x t ho base e i size ht hi v n xs hs hown hx (h v w ?_ ⟨rfl, rfl, rfl, Nat.le_refl _, fun _ _ _ => rfl⟩)
    rw [List.append_nil, Nat.add_zero]; exact hown
  . refine wpList_append_own w hgd s x t ho base e i z size bytes ht hi hz hsize hby hzs hsz v n xs hs hown ⟨g, 0, none⟩ m cap news hx hown2.1 (fun j u hj => ?_) h1 h63 hbytes hbase (fun v' w' h2 h3 _ => h v' w' h2 h3)
    have e0 : (⟨g, 0, none⟩ : Addr).add j = ⟨g, j, none⟩ := by by_cases h0 : j = 0 <;> simp [Addr.add, h0]
    have hj' : j < m * size := by rw [<- hown2.1]; exact (List.getElem?_eq_some_iff.1 hj).1
    rw [e0, hown2.cellAt j hj', hj]
end Go.Proofs.YtcpldcojckhapaaGreat

set_option maxRecDepth 100000
namespace Go.Proofs.YtcpldcojckhapaaGreat
open Go.RowKit
noncomputable def takesP (D : Dev) (i : Nat) (fs : List (Nat × Nat × ByteArray)) : Dev × List (Int × Int × Int × ByteArray) :=
  fs.foldl (fun p f => ((takeP p.1 i f.1 f.2.1 f.2.2).1, p.2 ++ (takeP p.1 i f.1 f.2.1 f.2.2).2)) (D, [])
theorem takesP_snoc (D : Dev) (i : Nat) (fs : List (Nat × Nat × ByteArray)) (f : Nat × Nat × ByteArray) : takesP D i (fs ++ [f]) = ((takeP (takesP D i fs).1 i f.1 f.2.1 f.2.2).1, (takesP D i fs).2 ++ (takeP (takesP D i fs).1 i f.1 f.2.1 f.2.2).2) := by
  unfold takesP; rw [List.foldl_append]; rfl
structure Same (D D' : Dev) : Prop where
  unit : D'.unit = D.unit
  batch : D'.batch = D.batch
  nl : D'.nl = D.nl
  ln : D'.ln = D.ln
  sz : D'.sz = D.sz
  kp : D'.kp = D.kp
  sec : D'.sec = D.sec
  base : D'.base = D.base
theorem Same.refl (D : Dev) : Same D D := ⟨rfl, rfl, rfl, rfl, rfl, rfl, rfl, rfl⟩
theorem Same.trans {D D' D2 : Dev} (h : Same D D') (h' : Same D' D2) : Same D D2 := ⟨h'.unit.trans h.unit, h'.batch.trans h.batch, h'.nl.trans h.nl, h'.ln.trans h.ln, h'.sz.trans h.sz, h'.kp.trans h.kp, h'.sec.trans h.sec, h'.base.trans h.base⟩
theorem flushP_same (D : Dev) : Same D (flushP D).1 /\ (flushP D).1.arr = D.arr := by
  unfold flushP
  split
  . exact ⟨Same.refl D, rfl⟩
  . exact ⟨⟨rfl, rfl, rfl, rfl, rfl, rfl, rfl, rfl⟩, rfl⟩
theorem takeP_same (D : Dev) (i m u : Nat) (s : ByteArray) : Same D (takeP D i m u s).1 /\ (takeP D i m u s).1.arr <= D.arr + 1 := by
  have hm : Same D (midP D s) := ⟨rfl, rfl, rfl, rfl, rfl, rfl, rfl, rfl⟩
  have hw : Same D { midP D s with wait := D.wait ++ [ansP D i m s] } := ⟨rfl, rfl, rfl, rfl, rfl, rfl, rfl, rfl⟩
  unfold takeP
  split
  . exact ⟨Same.refl D, by simp⟩
  . split
    . exact ⟨hm, Nat.le_refl _⟩
    . split
      . have := flushP_same { midP D s with wait := D.wait ++ [ansP D i m s] }
        exact ⟨hw.trans this.1, by rw [this.2]; exact Nat.le_refl _⟩
      . exact ⟨hw, Nat.le_refl _⟩
theorem takeP_len {D : Dev} (hok : DevOk D) (i m u : Nat) (s : ByteArray) : (takeP D i m u s).2.length <= 20 := by
  unfold takeP
  split
  . simp
  . split
    . simp
    . split
      . rename_i h0 _
        exact flushP_len _ (mid_fl hok (by omega))
      . simp
theorem takesP_ok {D : Dev} (hok : DevOk D) (i : Nat) (fs : List (Nat × Nat × ByteArray)) : ∀ q, q <= fs.length -> DevOk (takesP D i (fs.take q)).1 /\ Same D (takesP D i (fs.take q)).1 /\ (takesP D i (fs.take q)).1.arr <= D.arr + q /\ (takesP D i (fs.take q)).2.length <= 20 * q := by
  intro q
  induction q with
  | zero => intro _; exact ⟨hok, Same.refl D, by simp [takesP], by simp [takesP]⟩
  | succ q ih =>
    intro hq
    obtain ⟨h1, h2, h3, h4⟩ := ih (by omega)
    have e : fs.take (q + 1) = fs.take q ++ [fs[q]] := by rw [List.take_add_one, List.getElem?_eq_getElem (by omega)]; rfl
    rw [e, takesP_snoc]
    have g1 := takeP_same (takesP D i (fs.take q)).1 i fs[q].1 fs[q].2.1 fs[q].2.2
    have g2 := takeP_len h1 i fs[q].1 fs[q].2.1 fs[q].2.2
    refine ⟨takeP_ok h1 _ _ _ _, h2.trans g1.1, ?_, ?_⟩
    . have := g1.2
      show (takeP _ _ _ _ _).1.arr <= _
      omega
    . show (_ ++ _ : List _).length <= _
      rw [List.length_append]; omega
theorem own_ft94 {B C n d L S : Nat} {E : Nat -> Nat} {v : Value} {xs : List Value} {w w' : World} (h : w.ownsRow C 94 3 v n xs) (hf : FtT B (devT d L S E) w w') : w'.ownsRow C 94 3 v n xs :=
  own_same h (fun g hg => by obtain ⟨cg, hcg⟩ := own_block h g hg; exact hf.keep g cg 94 hcg rfl)
theorem own_ftA {B C n d L S : Nat} {E : Nat -> Nat} {v : Value} {xs : List Value} {w w' : World} (h : w.ownsRow C 77 4 v n xs) (hf : FtT B (devT d L S E) w w') : w'.ownsRow C 77 4 v n xs :=
  own_same h (fun g hg => by obtain ⟨cg, hcg⟩ := own_block h g hg; exact hf.keep g cg 77 hcg rfl)
theorem frames_at {w : World} {B k : Nat} {a : Option Addr} {l : List (Nat × Nat × ByteArray)} (h : w.ownsRow B 94 3 (.slice a l.length k) l.length (l.flatMap Pl.frC)) (q : Nat) (x : Nat × Nat × ByteArray) (hx : l[q]? = some x) :
    ∃ g, a = some ⟨g, 0, none⟩ /\ g < w.heap.size /\ w.cell? ⟨g, q * 3, none⟩ = some (.int .i64 (x.1 : Nat)) /\ w.cell? ⟨g, q * 3 + 1, none⟩ = some (.int .i64 (x.2.1 : Nat)) /\ w.cell? ⟨g, q * 3 + 2, none⟩ = some (.string x.2.2) := by
  obtain ⟨a', c', he, hat⟩ := own_view h
  obtain ⟨rfl, rfl⟩ : a' = a /\ c' = k := by simpa using he.symm
  have hlt : q < l.length := (List.getElem?_eq_some_iff.1 hx).1
  have hxe : l[q] = x := by rw [List.getElem?_eq_getElem hlt] at hx; exact Option.some.inj hx
  obtain ⟨g, rfl, hg, hc⟩ := hat q hlt
  refine ⟨g, rfl, hg, ?_, ?_, ?_⟩
  . have := flat_gen Pl.frC 3 (fun _ => rfl) l q 0 hlt (by omega)
    rw [Nat.add_zero] at this
    rw [hc _ (by omega), this, hxe]; rfl
  . have := flat_gen Pl.frC 3 (fun _ => rfl) l q 1 hlt (by omega)
    rw [hc _ (by omega), this, hxe]; rfl
  . have := flat_gen Pl.frC 3 (fun _ => rfl) l q 2 hlt (by omega)
    rw [hc _ (by omega), this, hxe]; rfl
set_option maxRecDepth 100000 in
set_option maxHeartbeats 4000000 in
theorem feed_frames (d L S i : Nat) (E : Nat -> Nat) (wv : Value) (D D0 : Dev) (s : ByteArray) (fs : List (Nat × Nat × ByteArray)) (w : World) (h : DevIn w d L S E wv D) (hi : i < D.nl) (hnl : D.nl <= 4)
    (hH : Calls Tryz.prog 56 #[.pointer (some ⟨L, i * 3, none⟩), .string s] w fun e w' => ∃ v, e = .returned v /\ w'.ownsRow w.heap.size 94 3 v fs.length (fs.flatMap Pl.frC) /\ DevIn w' d L S E wv D0 /\ FtT D.base (devT d L S E) w w')
    (hok : DevOk D0) (hk : 0 < fs.length -> (D0.ln i).kind = 0) (hi0 : i < D0.nl) (hb0 : D0.base = D.base) (hm : ∀ x ∈ fs, Pl.May x) (hfl : fs.length <= 530000) (ha : D0.arr <= 300000000) :
    Calls Tryz.prog 20 #[.pointer (some ⟨d, 0, none⟩), .int .i64 (i : Nat), .string s] w fun e w' => ∃ v wv', e = .returned (.tuple #[v, .int .i64 0]) /\ w'.ownsRow w.heap.size 77 4 v (takesP D0 i fs).2.length ((takesP D0 i fs).2.flatMap encA) /\ DevIn w' d L S E wv' (takesP D0 i fs).1 /\ FtT D.base (devT d L S E) w w' := by
  obtain ⟨i0, hii0, hz0, hz1, hz2⟩ := info_parts Tryz.infoEA
  obtain ⟨c0, c1, c2, c11, c12, c13, c14, cf, hdl⟩ := h.cells
  have HHR := hideF hH
  have HH := hideF h
  have HOK := hideF (takesP_ok hok i fs)
  have HM := hideF hm
  have HK := hideF hk
  have HB0 := hideF hb0
  have HI0 := hideF hi0
  have hiI : (i : Int) < (D.nl : Int) := by omega
  clear h hH hok hm hk hb0 hi0
  go_enter Tryz.func20, Tryz.ntmps20
  go_wp2_with fail
  refine (within_yes _ _ _ _ (by omega) (by omega)).mono ?_
  rintro e w0 ⟨rfl, hw0⟩
  rw [hw0]
  clear hw0
  go_wp2_with fail
  refine HHR.out.mono ?_
  rintro e w1 ⟨v1, rfl, hown1, hD1, hF1⟩
  obtain ⟨a1, p1, rfl, _⟩ := own_view hown1
  have HD1 := hideF hD1
  have HF1 := hideF hF1
  have HO1 := hideF hown1
  have hs1 := hF1.size
  clear hD1 hF1 hown1 HHR c0 c1 c2 c11 c12 c13 c14 cf
  go_wp2_with fail
  go_loopw [29, 8] (fun q v wr => ∃ (n : Nat) (wv' : Value), n <= fs.length /\ q = .int .i64 (n : Nat) /\ wr.ownsRow w.heap.size 77 4 v (takesP D0 i (fs.take n)).2.length ((takesP D0 i (fs.take n)).2.flatMap encA) /\ DevIn wr d L S E wv' (takesP D0 i (fs.take n)).1 /\ wr.ownsRow w.heap.size 94 3 (.slice a1 fs.length p1) fs.length (fs.flatMap Pl.frC) /\ FtT D.base (devT d L S E) w wr) (fun q _ _ => fs.length - (intOf q).toNat)
  case atStart => exact ⟨0, wv, Nat.zero_le _, rfl, World.ownsRow_nil _ _ _ _, HD1.out, HO1.out, HF1.out⟩
  case round =>
    obtain ⟨n, wv2, hn, rfl, hown, hD, hfr, hF⟩ := hrel
    by_cases hlt : n < fs.length
    . obtain ⟨x, hx⟩ : ∃ x, fs[n]? = some x := ⟨_, List.getElem?_eq_getElem hlt⟩
      have hxm := HM.out x (List.mem_of_getElem? hx)
      have e1 : fs.take (n + 1) = fs.take n ++ [x] := take_succ_at fs n x hx
      have hsn := takesP_snoc D0 i (fs.take n) x
      rw [<- e1] at hsn
      obtain ⟨k1, k2, k3, k4⟩ := HOK.out n hn
      obtain ⟨D2, hD2⟩ : ∃ D2, D2 = (takesP D0 i (fs.take n)).1 := ⟨_, rfl⟩
      obtain ⟨A2, hA2⟩ : ∃ A2, A2 = (takesP D0 i (fs.take n)).2 := ⟨_, rfl⟩
      rw [<- hD2] at hD hsn k1 k2 k3
      rw [<- hA2] at hown hsn k4
      have hk4 := takeP_len k1 i x.1 x.2.1 x.2.2
      obtain ⟨g1, rfl, hg1, f0, f1, f2⟩ := frames_at hfr n x hx
      obtain ⟨X, hX⟩ : ∃ X, X = wr.alloc (.cells #[.int .i64 (x.1 : Nat), .int .i64 (x.2.1 : Nat), .string x.2.2] 94) := ⟨_, rfl⟩
      have hXb : Below wr.heap.size wr X := by rw [hX]; exact bel_alloc (Below.refl _ _) _
      have hbase : D2.base = D.base := k2.base.trans HB0.out
      have HTX := hideF (take_any d L S i x.1 x.2.1 E wv2 D2 x.2.2 X (hD.belowQ hXb) k1 (by rw [k2.nl]; exact HI0.out) (by rw [k2.ln]; exact HK.out (by omega)) hxm (by omega))
      rw [hbase] at HTX
      have HXF := hideF (hF.then_below hXb)
      have HXO := hideF (ownsRow_below hown hXb)
      have HXR := hideF (ownsRow_below hfr hXb)
      have hsX := HXF.out.size
      have HSN := hideF hsn
      clear hXb hown hD hfr hF hsn e1 hxm k1 k2 k3 hx hbase hD2 hA2
      go_wp2_with fail
      rw [<- hX]
      clear hX f0 f1 f2
      refine HTX.out.mono ?_
      rintro e w2 ⟨v2, wv3, rfl, hown2, hD3, hF2⟩
      obtain ⟨A3, hA3⟩ : ∃ A3, A3 = (takeP D2 i x.1 x.2.1 x.2.2).2 := ⟨_, rfl⟩
      rw [<- hA3] at hown2 hk4
      obtain ⟨a3, p3, rfl, _⟩ := own_view hown2
      have HA3 := hideF hA3
      have HD3 := hideF hD3
      have HF2 := hideF (HXF.out.trans hF2)
      have HO2 := hideF (own_ftA HXO.out hF2)
      have HR2 := hideF (own_ft94 HXR.out hF2)
      have HN2 := hideF hown2
      have hs2 := HF2.out.size
      clear hown2 hD3 hF2 HTX hA3 HXF HXO HXR
      have hk5 : A2.length + A3.length <= 20000000 := by omega
      go_wp2_with (at_builtin; refine wpList_append_any rfl (.tmp 33) (.tmp 37) 31 rfl w.heap.size X.heap.size 77 i0 _ 4 40 Tryz.underlying31 hii0 hz0 hz1 hz2 rfl (by decide) _ A2.length _ rfl HO2.out (.slice a3 A3.length p3) A3.length (A3.flatMap encA) rfl HN2.out (encA_one _) (by unfold maxLen; omega) (by omega) hs2 ?_; intro v4 w4 hown4 hgrow4)
      have HF4 := hideF (HF2.out.grown_new hgrow4 (fun k hk => (HO2.out.lt k hk).1))
      have hG4 := (FtT.refl (B := 0) (fun _ t => t == 77) w2).grown hgrow4 (fun k hk => ⟨Nat.zero_le _, own_block HO2.out k hk⟩) (fun _ => rfl)
      have HD4 := hideF (HD3.out.keep hG4 (fun _ => rfl) (fun _ => rfl) (fun _ => rfl) (fun _ => rfl) (fun _ => rfl))
      have HR4 := hideF (own_same (w' := w4) HR2.out (fun g hg => by obtain ⟨cg, hcg⟩ := own_block HR2.out g hg; exact hG4.keep g cg 94 hcg rfl))
      have HO4 := hideF hown4
      clear hown4 hgrow4 hG4
      go_roundw
      case rel =>
        refine ⟨n + 1, wv3, by omega, by go_num, ?_, ?_, HR4.out, HF4.out⟩
        . rw [HSN.out, <- HA3.out, List.length_append, List.flatMap_append]; exact HO4.out
        . rw [HSN.out]; exact HD4.out
      case measure => simp [intOf]; omega
    . obtain rfl : n = fs.length := by omega
      rw [List.take_length] at hown hD
      have HO := hideF hown
      have HD := hideF hD
      have HF := hideF hF
      obtain ⟨a8, p8, rfl, _⟩ := own_view hown
      clear hown hD hF hfr
      go_wp2
      go_ret2
      exact ⟨_, wv2, rfl, HO.out, HD.out, HF.out⟩
end Go.Proofs.YtcpldcojckhapaaGreat

set_option maxRecDepth 100000
namespace Go.Proofs.YtcpldcojckhapaaGreat
open Go.RowKit
noncomputable def framesOf (s : ByteArray) : List (Nat × Nat × ByteArray) := Classical.choose (spl_frames s (s.size + 1) 0)
theorem framesOf_spec (s : ByteArray) : (Pl.splF s).1 = (framesOf s).flatMap Pl.frC /\ (∀ x ∈ framesOf s, Pl.May x) /\ (framesOf s).length * 8 <= s.size := by
  have h := Classical.choose_spec (spl_frames s (s.size + 1) 0)
  exact ⟨h.1, h.2.1, by have := h.2.2 (Nat.zero_le _); exact this⟩
noncomputable def heardP (all : ByteArray) : Ln := if Pl.brk (all.extract (Pl.splF all).2 all.size) = true then ⟨0, ⟨#[]⟩, true⟩ else ⟨0, all.extract (Pl.splF all).2 all.size, false⟩
noncomputable def lineP (D : Dev) (i : Nat) (s : ByteArray) : Dev :=
  { D with ln := fun a => if a = i then (if (D.ln i).kind = 1 then { D.ln i with bytes := collB (D.ln i).bytes s } else if (D.ln i).broken = true then D.ln i else heardP ((D.ln i).bytes ++ s)) else D.ln a }
noncomputable def asksP (D : Dev) (i : Nat) (s : ByteArray) : List (Nat × Nat × ByteArray) := if (D.ln i).kind = 1 ∨ (D.ln i).broken = true then [] else framesOf ((D.ln i).bytes ++ s)
noncomputable def feedP (D : Dev) (i : Nat) (s : ByteArray) : Dev × List (Int × Int × Int × ByteArray) := takesP (lineP D i s) i (asksP D i s)
theorem lineP_ok {D : Dev} (h : DevOk D) (i : Nat) (s : ByteArray) : DevOk (lineP D i s) := ⟨h.sz, h.ent, h.kp0, h.kp2, h.unit, h.batch, h.nl, h.lat, h.stamp, h.sec, h.wlen, h.uns, h.w0, h.asc, h.top⟩
set_option maxRecDepth 100000 in
set_option maxHeartbeats 1000000 in
theorem hear_serial (L i n : Nat) (ln : Nat -> Ln) (s : ByteArray) (w : World) (hG : Grid w L 116 n 3 (fun a j => lnc (ln a) j)) (hi : i < n) (hk : (ln i).kind = 1) (hz : (ln i).bytes.size <= 257) (hs : s.size <= 4194304) :
    Calls Tryz.prog 56 #[.pointer (some ⟨L, i * 3, none⟩), .string s] w fun e w' => e = .returned (.slice none 0 0) /\ Grid w' L 116 n 3 (fun a j => lnc (if a = i then { ln i with bytes := collB (ln i).bytes s } else ln a) j) /\ Chg1 L w w' := by
  have c0 : w.cell? ⟨L, i * 3, none⟩ = some (.int .i64 1) := by have := hG.cell hi (j := 0) (by omega); rw [Nat.add_zero] at this; rw [this]; simp [lnc, hk]
  have HC := hideF (collect_any L i n ln s w hG hi hz hs)
  clear hG
  go_enter Tryz.func56, Tryz.ntmps56
  go_wp2_with fail
  refine HC.out.mono ?_
  rintro e w1 ⟨rfl, h1, h2⟩
  have H1 := hideF h1
  have H2 := hideF h2
  clear h1 h2 c0
  go_wp2
  go_ret
  exact ⟨rfl, H1.out, H2.out⟩
theorem frames_len {s : ByteArray} {acc : List Value} {n : Nat} {v : Value} {B : Nat} {w : World} (h : w.ownsRow B 94 3 v n acc) (he : acc = (framesOf s).flatMap Pl.frC) : n = (framesOf s).length := by
  have h1 := h.1
  rw [he, flat_len Pl.frC 3 (fun _ => rfl)] at h1
  omega
theorem heard_eq {all : ByteArray} {t : Nat} {k : Int} (hk : k = if Pl.brk (all.extract t all.size) = true then 4 else 0) (ht : t = (Pl.splF all).2) : heardL all t k = heardP all := by
  unfold heardL heardP
  rw [<- ht, hk]
  by_cases hb : Pl.brk (all.extract t all.size) = true
  . rw [if_pos hb, if_pos hb, if_neg (by decide)]
  . rw [if_neg hb, if_neg hb, if_pos rfl]
theorem hear_gen (d L S i : Nat) (E : Nat -> Nat) (wv : Value) (D : Dev) (s : ByteArray) (w : World) (h : DevIn w d L S E wv D) (hi : i < D.nl) (hk : (D.ln i).kind <= 1) (hz : (D.ln i).kind = 1 -> (D.ln i).bytes.size <= 257) (hs : (D.ln i).bytes.size + s.size <= 4194304) :
    Calls Tryz.prog 56 #[.pointer (some ⟨L, i * 3, none⟩), .string s] w fun e w' => ∃ v, e = .returned v /\ w'.ownsRow w.heap.size 94 3 v (asksP D i s).length ((asksP D i s).flatMap Pl.frC) /\ (asksP D i s).length <= 524288 /\ DevIn w' d L S E wv (lineP D i s) /\ FtT D.base (devT d L S E) w w' := by
  obtain ⟨cl, hcl⟩ := h.lines.block
  by_cases h1 : (D.ln i).kind = 1
  . have eA : asksP D i s = [] := by unfold asksP; rw [if_pos (.inl h1)]
    rw [eA]
    refine (hear_serial L i D.nl D.ln s w h.lines hi h1 (hz h1) (by omega)).mono ?_
    rintro e w' ⟨rfl, hG, hc⟩
    refine ⟨_, rfl, World.ownsRow_nil _ _ _ _, by simp, DevIn.heard h (hG.congr fun a j _ _ => ?_) hc, FtT.chg hc hcl (devT_L _ _ _ _) h.lo.2.1⟩
    show lnc _ _ = lnc _ _
    rw [if_pos h1]
  . by_cases h2 : (D.ln i).broken = true
    . have eA : asksP D i s = [] := by unfold asksP; rw [if_pos (.inr h2)]
      rw [eA]
      have c0 := h.lines.cell hi (j := 0) (by omega)
      have c2 := h.lines.cell hi (j := 2) (by omega)
      rw [Nat.add_zero] at c0
      refine (hear_broken L (i * 3) s w (by rw [c0]; simp only [lnc]; rw [show (D.ln i).kind = 0 by omega]; rfl) (by rw [c2]; simp only [lnc]; rw [h2]; rfl)).mono ?_
      rintro e w' ⟨rfl, rfl⟩
      refine ⟨_, rfl, World.ownsRow_nil _ _ _ _, by simp, ?_, FtT.refl _ _⟩
      have hg : (fun a => if a = i then (if (D.ln i).kind = 1 then { D.ln i with bytes := collB (D.ln i).bytes s } else if (D.ln i).broken = true then D.ln i else heardP ((D.ln i).bytes ++ s)) else D.ln a) = D.ln := by
        funext a
        by_cases e : a = i
        . rw [if_pos e, if_neg h1, if_pos h2, e]
        . rw [if_neg e]
      unfold lineP
      rw [hg]
      exact h
    . have eA : asksP D i s = framesOf ((D.ln i).bytes ++ s) := by unfold asksP; rw [if_neg (by simp [h1, h2])]
      rw [eA]
      refine (hear_stream L i D.nl D.ln s w h.lines hi (by omega) (by simpa using h2) (by rw [ByteArray.size_append]; omega)).mono ?_
      rintro e w' ⟨v, m, acc, t, k, rfl, hown, hspl, hm, hG, hc⟩
      obtain ⟨s1, s2⟩ := hspl
      have hacc : acc = (framesOf ((D.ln i).bytes ++ s)).flatMap Pl.frC := by rw [<- (framesOf_spec _).1, s1]
      have ht : t = (Pl.splF ((D.ln i).bytes ++ s)).2 := by rw [s1]
      have hme := frames_len hown hacc
      subst hme
      rw [hacc] at hown
      refine ⟨v, rfl, hown, hm, DevIn.heard h (hG.congr fun a j _ _ => ?_) hc, FtT.chg hc hcl (devT_L _ _ _ _) h.lo.2.1⟩
      show lnc _ _ = lnc _ _
      by_cases e : a = i
      . rw [if_pos e, if_pos e, if_neg h1, if_neg h2, heard_eq s2 ht]
      . rw [if_neg e, if_neg e]
theorem lineP_kind (D : Dev) (i : Nat) (s : ByteArray) (hk : (D.ln i).kind <= 1) : (D.ln i).kind = 1 ∨ ((lineP D i s).ln i).kind = 0 := by
  by_cases h1 : (D.ln i).kind = 1
  . exact .inl h1
  . right
    show (if i = i then _ else _ : Ln).kind = 0
    rw [if_pos rfl, if_neg h1]
    by_cases h2 : (D.ln i).broken = true
    . rw [if_pos h2]; omega
    . rw [if_neg h2]
      unfold heardP
      split <;> rfl
theorem feed_any (d L S i : Nat) (E : Nat -> Nat) (wv : Value) (D : Dev) (s : ByteArray) (w : World) (h : DevIn w d L S E wv D) (hok : DevOk D) (hi : i < D.nl) (hk : (D.ln i).kind <= 1) (hz : (D.ln i).kind = 1 -> (D.ln i).bytes.size <= 257) (hs : (D.ln i).bytes.size + s.size <= 4194304) (ha : D.arr <= 300000000) :
    Calls Tryz.prog 20 #[.pointer (some ⟨d, 0, none⟩), .int .i64 (i : Nat), .string s] w fun e w' => ∃ v wv', e = .returned (.tuple #[v, .int .i64 0]) /\ w'.ownsRow w.heap.size 77 4 v (feedP D i s).2.length ((feedP D i s).2.flatMap encA) /\ DevIn w' d L S E wv' (feedP D i s).1 /\ FtT D.base (devT d L S E) w w' := by
  have hbd := (framesOf_spec ((D.ln i).bytes ++ s)).2.2
  have hmay : ∀ x ∈ asksP D i s, Pl.May x := by
    unfold asksP
    split
    . simp
    . exact (framesOf_spec _).2.1
  have hfl : (asksP D i s).length <= 530000 := by
    unfold asksP
    split
    . simp
    . rw [ByteArray.size_append] at hbd; omega
  refine feed_frames d L S i E wv D (lineP D i s) s (asksP D i s) w h hi hok.nl.2 ((hear_gen d L S i E wv D s w h hi hk hz hs).mono fun e w' ⟨v, h1, h2, _, h4, h5⟩ => ⟨v, h1, h2, h4, h5⟩) (lineP_ok hok i s) (fun hp => ?_) hi rfl hmay hfl ha
  rcases lineP_kind D i s hk with h1 | h0
  . have eA : asksP D i s = [] := by unfold asksP; rw [if_pos (.inl h1)]
    rw [eA] at hp
    simp at hp
  . exact h0
end Go.Proofs.YtcpldcojckhapaaGreat

set_option maxRecDepth 100000
namespace Go.Proofs.YtcpldcojckhapaaGreat
open Go.RowKit
noncomputable def takeZ (D : Dev) (i u : Nat) (s : ByteArray) : Dev × List (Int × Int × Int × ByteArray) :=
  if u = D.unit then ({ D with arr := D.arr + 1, ent := doE D (shpOf s).1 (shpOf s).2 }, [(2, 0, ((i : Nat) : Int), serialB D.unit (doR D s (shpOf s).1 (shpOf s).2))])
  else if u = 0 /\ onlyW (shpOf s).1 = true then ({ D with arr := D.arr + 1, ent := doE D (shpOf s).1 (shpOf s).2 }, [])
  else (D, [])
theorem doB_no {D : Dev} (h : ∀ i, D.kp i = 0) (x : Pl.Shp) (k : Nat) : doB D x k = false := by
  unfold doB
  rw [h]
  simp
theorem take_ser (d L S i u : Nat) (E : Nat -> Nat) (wv : Value) (D : Dev) (s : ByteArray) (w : World) (h : DevIn w d L S E wv D) (hok : DevOk D) (hkp : ∀ i, D.kp i = 0) (hi : i < D.nl) (hk : (D.ln i).kind = 1) (hs1 : 1 <= s.size) (hs2 : s.size <= 253) (h0 : D.uns = 0) (ha : D.arr <= 900000000) :
    Calls Tryz.prog 57 #[.pointer (some ⟨d, 0, none⟩), .int .i64 (i : Nat), .agg #[.int .i64 (0 : Nat), .int .i64 (u : Nat), .string s]] w fun e w' => ∃ v, e = .returned v /\ w'.ownsRow w.heap.size 77 4 v (takeZ D i u s).2.length ((takeZ D i u s).2.flatMap encA) /\ DevIn w' d L S E wv (takeZ D i u s).1 /\ FtT D.base (devT d L S E) w w' := by
  have hu2 := hok.unit
  have hb2 := hok.batch
  have hwl := hok.wlen
  have hsh := shpOf_is s
  have hr := doR_size D s _ _ hok hsh hs2
  have hdo := do_any d L S E wv D s _ _ hsh (by omega) hok.sz hok.ent
  rw [doB_no hkp] at hdo
  by_cases hu : u = D.unit
  . subst hu
    have e : takeZ D i D.unit s = ({ D with arr := D.arr + 1, ent := doE D (shpOf s).1 (shpOf s).2 }, [(2, 0, ((i : Nat) : Int), serialB D.unit (doR D s (shpOf s).1 (shpOf s).2))]) := by unfold takeZ; rw [if_pos rfl]
    rw [e]
    exact take_nowR d L S i 0 E wv D s _ _ _ w h hi (by omega) (framed_ser L i D.nl 0 D.unit _ D.ln hi hk (by omega) hr) hdo h0 hwl (by omega)
  . by_cases hz : u = 0
    . subst hz
      cases how : onlyW (shpOf s).1
      . have e : takeZ D i 0 s = (D, []) := by unfold takeZ; rw [if_neg hu, if_neg (by simp [how])]
        rw [e]
        refine (take_serR d L S i 0 E wv D s w h hi hk (by omega) (fun x k hx => by rw [(hx.eq hsh).1]; exact how)).mono ?_
        rintro e w' ⟨h1, h2⟩
        exact ⟨_, h1, World.ownsRow_nil _ _ _ _, h.belowQ h2, FtT.of_below _ h2⟩
      . have e : takeZ D i 0 s = ({ D with arr := D.arr + 1, ent := doE D (shpOf s).1 (shpOf s).2 }, []) := by unfold takeZ; rw [if_neg hu, if_pos ⟨rfl, how⟩]
        rw [e]
        refine (take_all d L S i 0 E wv D s _ _ w h hi hk (by omega) hdo (by omega) (fun x k hx => by rw [(hx.eq hsh).1]; exact how) h0 hwl (by omega)).mono ?_
        rintro e w' ⟨h1, h2, h3⟩
        exact ⟨_, h1, World.ownsRow_nil _ _ _ _, h2, h3⟩
    . have e : takeZ D i u s = (D, []) := by unfold takeZ; rw [if_neg hu, if_neg (fun h => hz h.1)]
      rw [e]
      refine (take_serO d L S i 0 u E wv D s w h hi hk hu hz).mono ?_
      rintro e w' ⟨h1, h2⟩
      exact ⟨_, h1, World.ownsRow_nil _ _ _ _, h.belowQ h2, FtT.of_below _ h2⟩
theorem takeZ_ok {D : Dev} (hok : DevOk D) (i u : Nat) (s : ByteArray) : DevOk (takeZ D i u s).1 := by
  have hE := doE_ok hok.ent (shpOf_is s)
  have key : DevOk { D with arr := D.arr + 1, ent := doE D (shpOf s).1 (shpOf s).2 } :=
    ⟨hok.sz, hE, hok.kp0, hok.kp2, hok.unit, hok.batch, hok.nl, hok.lat, hok.stamp, hok.sec, hok.wlen, hok.uns, hok.w0, hok.asc, fun y hy => by have := hok.top y hy; show y.1 <= ((D.arr + 1 : Nat) : Int); omega⟩
  unfold takeZ
  split
  . exact key
  . split
    . exact key
    . exact hok
theorem takeZ_same (D : Dev) (i u : Nat) (s : ByteArray) : Same D (takeZ D i u s).1 /\ (takeZ D i u s).1.arr <= D.arr + 1 /\ (takeZ D i u s).1.uns = D.uns /\ (takeZ D i u s).1.wait = D.wait := by
  unfold takeZ
  split
  . exact ⟨⟨rfl, rfl, rfl, rfl, rfl, rfl, rfl, rfl⟩, Nat.le_refl _, rfl, rfl⟩
  . split
    . exact ⟨⟨rfl, rfl, rfl, rfl, rfl, rfl, rfl, rfl⟩, Nat.le_refl _, rfl, rfl⟩
    . exact ⟨Same.refl D, Nat.le_succ _, rfl, rfl⟩
theorem takeZ_len (D : Dev) (i u : Nat) (s : ByteArray) : (takeZ D i u s).2.length <= 1 := by
  unfold takeZ
  split
  . exact Nat.le_refl _
  . split <;> exact Nat.zero_le _
theorem takeZ_line (D : Dev) (i u : Nat) (s : ByteArray) : ∀ x ∈ (takeZ D i u s).2, x.2.2.1 = ((i : Nat) : Int) := by
  unfold takeZ
  split
  . intro x hx; rw [List.mem_singleton.1 hx]
  . split <;> (intro x hx; cases hx)
theorem shp_into {s : ByteArray} {x : Pl.Shp} {k : Nat} (h : Pl.ShpIs s x k) : x.into = 0 ∨ x.into = 2 := by
  unfold Pl.ShpIs at h
  rcases h with ⟨_, rfl, _⟩ | ⟨_, h⟩
  . exact .inl rfl
  . rcases h with ⟨_, h⟩ | ⟨_, h⟩ | ⟨_, h⟩ | ⟨_, h⟩ | ⟨_, h⟩ | ⟨_, h⟩ | ⟨_, h⟩ | ⟨_, h⟩ | ⟨_, h⟩ | ⟨_, h⟩ | ⟨_, h⟩
    all_goals first
      | (rcases h with ⟨_, rfl, _⟩ | ⟨_, rfl, _⟩; exact .inl rfl; exact .inl rfl)
      | (rcases h with ⟨_, rfl, _⟩ | ⟨_, rfl, _⟩; exact .inr rfl; exact .inl rfl)
      | (obtain ⟨rfl, _⟩ := h; exact .inl rfl)
theorem doE_3 {D : Dev} {s : ByteArray} {x : Pl.Shp} {k : Nat} (h : Pl.ShpIs s x k) (j : Nat) : doE D x k 3 j = D.ent 3 j := by
  have hi := shp_into h
  unfold doE
  split
  . unfold entD
    split
    . unfold entSet
      rw [if_neg (fun h => by have := h.1; omega)]
    . unfold entW
      rw [if_neg (fun h => by have := h.1; omega)]
  . rfl
theorem takeZ_3 (D : Dev) (i u : Nat) (s : ByteArray) (j : Nat) : (takeZ D i u s).1.ent 3 j = D.ent 3 j := by
  unfold takeZ
  split
  . exact doE_3 (shpOf_is s) j
  . split
    . exact doE_3 (shpOf_is s) j
    . rfl
end Go.Proofs.YtcpldcojckhapaaGreat

set_option maxRecDepth 100000
namespace Go.Proofs.YtcpldcojckhapaaGreat
open Go.RowKit
noncomputable def takesZ (D : Dev) (fs : List Fd) : Dev × List (Int × Int × Int × ByteArray) :=
  fs.foldl (fun p f => ((takeZ p.1 f.line f.unit f.body).1, p.2 ++ (takeZ p.1 f.line f.unit f.body).2)) (D, [])
theorem takesZ_snoc (D : Dev) (fs : List Fd) (f : Fd) : takesZ D (fs ++ [f]) = ((takeZ (takesZ D fs).1 f.line f.unit f.body).1, (takesZ D fs).2 ++ (takeZ (takesZ D fs).1 f.line f.unit f.body).2) := by
  unfold takesZ; rw [List.foldl_append]; rfl
theorem takesZ_ok {D : Dev} (hok : DevOk D) (h0 : D.uns = 0) (fs : List Fd) : ∀ q, q <= fs.length -> DevOk (takesZ D (fs.take q)).1 /\ Same D (takesZ D (fs.take q)).1 /\ (takesZ D (fs.take q)).1.arr <= D.arr + q /\ (takesZ D (fs.take q)).2.length <= q /\ (takesZ D (fs.take q)).1.uns = 0 /\ (takesZ D (fs.take q)).1.wait = D.wait /\ ∀ j, (takesZ D (fs.take q)).1.ent 3 j = D.ent 3 j
  | 0, _ => ⟨hok, Same.refl _, Nat.le_refl _, Nat.le_refl _, h0, rfl, fun _ => rfl⟩
  | q + 1, h => by
    obtain ⟨x, hx⟩ : ∃ x, fs[q]? = some x := ⟨_, List.getElem?_eq_getElem (by omega)⟩
    obtain ⟨h1, h2, h3, h4, h5, h6, h7⟩ := takesZ_ok hok h0 fs q (by omega)
    rw [take_succ_at fs q x hx, takesZ_snoc]
    obtain ⟨g1, g2, g3, g4⟩ := takeZ_same (takesZ D (fs.take q)).1 x.line x.unit x.body
    have g5 := takeZ_len (takesZ D (fs.take q)).1 x.line x.unit x.body
    refine ⟨takeZ_ok h1 _ _ _, h2.trans g1, ?_, ?_, g3.trans h5, g4.trans h6, fun j => (takeZ_3 _ _ _ _ j).trans (h7 j)⟩
    . show (takeZ _ _ _ _).1.arr <= _
      omega
    . show (_ ++ _ : List _).length <= _
      rw [List.length_append]; omega
theorem own_ft134 {B C n d L S : Nat} {E : Nat -> Nat} {v : Value} {xs : List Value} {w w' : World} (h : w.ownsRow C 134 4 v n xs) (hf : FtT B (devT d L S E) w w') : w'.ownsRow C 134 4 v n xs :=
  own_same h (fun g hg => by obtain ⟨cg, hcg⟩ := own_block h g hg; exact hf.keep g cg 134 hcg rfl)
theorem founds_at {w : World} {B k : Nat} {a : Option Addr} {l : List Fd} (h : w.ownsRow B 134 4 (.slice a l.length k) l.length (l.flatMap Fd.c)) (q : Nat) (x : Fd) (hx : l[q]? = some x) :
    ∃ g, a = some ⟨g, 0, none⟩ /\ g < w.heap.size /\ w.cell? ⟨g, q * 4, none⟩ = some (.int .i64 (x.line : Nat)) /\ w.cell? ⟨g, q * 4 + 1, none⟩ = some (.int .i64 0) /\ w.cell? ⟨g, q * 4 + 2, none⟩ = some (.int .i64 (x.unit : Nat)) /\ w.cell? ⟨g, q * 4 + 3, none⟩ = some (.string x.body) := by
  obtain ⟨a', c', he, hat⟩ := own_view h
  obtain ⟨rfl, rfl⟩ : a' = a /\ c' = k := by simpa using he.symm
  have hlt : q < l.length := (List.getElem?_eq_some_iff.1 hx).1
  have hxe : l[q] = x := by rw [List.getElem?_eq_getElem hlt] at hx; exact Option.some.inj hx
  obtain ⟨g, rfl, hg, hc⟩ := hat q hlt
  refine ⟨g, rfl, hg, ?_, ?_, ?_, ?_⟩
  . have := flat_gen Fd.c 4 (fun _ => rfl) l q 0 hlt (by omega)
    rw [Nat.add_zero] at this
    rw [hc _ (by omega), this, hxe]; rfl
  . have := flat_gen Fd.c 4 (fun _ => rfl) l q 1 hlt (by omega)
    rw [hc _ (by omega), this, hxe]; rfl
  . have := flat_gen Fd.c 4 (fun _ => rfl) l q 2 hlt (by omega)
    rw [hc _ (by omega), this, hxe]; rfl
  . have := flat_gen Fd.c 4 (fun _ => rfl) l q 3 hlt (by omega)
    rw [hc _ (by omega), this, hxe]; rfl
def IsTk (c rest : Code) : Prop := ∃ x y z, Tryz.f30.body = some (.seq x (.seq y (.seq (.seq z c) rest)))
structure FdOk (D : Dev) (f : Fd) : Prop where
  line : f.line < D.nl
  kind : (D.ln f.line).kind = 1
  lo : 1 <= f.body.size
  hi : f.body.size <= 253
def TickJ (d L S : Nat) (E : Nat -> Nat) (wv : Value) (D : Dev) (fs : List Fd) (w : World) (tm : Array Value) (w' : World) : Prop :=
  ∃ v s4 s5 s6 s7 s8 s9 s10 s11 s12 s13 s14 s15 s16 s17 s18 s19 s20 s21 s22 s23 s24 s25 s26 : Value, tm = #[.pointer (some ⟨d, 0, none⟩), undef, .slice none 0 0, v, s4, s5, s6, s7, s8, s9, s10, s11, s12, s13, s14, s15, s16, s17, s18, s19, s20, s21, s22, s23, s24, s25, s26] /\ w'.ownsRow w.heap.size 77 4 v (takesZ D fs).2.length ((takesZ D fs).2.flatMap encA) /\ DevIn w' d L S E wv (takesZ D fs).1 /\ FtT D.base (devT d L S E) w w'
set_option maxHeartbeats 4000000 in
theorem tick_wp (c rest : Code) (hc : IsTk c rest) (d L S : Nat) (E : Nat -> Nat) (wv : Value) (D : Dev) (fs : List Fd) (B p1 : Nat) (a1 : Option Addr) (s8 s9 s10 : Value) (w : World) (h : DevIn w d L S E wv D) (hok : DevOk D) (hkp : ∀ i, D.kp i = 0) (h0 : D.uns = 0) (ha : D.arr <= 300000000) (hfl : fs.length <= 4) (hfs : ∀ f ∈ fs, FdOk D f) (hown : w.ownsRow B 134 4 (.slice a1 fs.length p1) fs.length (fs.flatMap Fd.c)) :
    c.wp Tryz.prog (nPost (TickJ d L S E wv D fs w)) ⟨#[.pointer (some ⟨d, 0, none⟩), undef, .slice none 0 0, .slice none 0 0, undef, undef, .pointer (some ⟨d, 0, none⟩), .pointer (some ⟨d, 0, none⟩), s8, s9, s10, .slice a1 fs.length p1, .int .i64 fs.length, .int .i64 0, undef, undef, undef, undef, undef, undef, undef, undef, undef, undef, undef, undef, undef], []⟩ w := by
  obtain ⟨x, y, z, hb⟩ := hc
  have hb' := hb.symm
  simp only [Tryz.f30, Option.some.injEq, Code.seq.injEq] at hb'
  obtain ⟨_, _, ⟨_, rfl⟩, _⟩ := hb'
  clear hb
  obtain ⟨i0, hii0, hz0, hz1, hz2⟩ := info_parts Tryz.infoEA
  have HOK := hideF (takesZ_ok hok h0 fs)
  have HM := hideF hfs
  have HKP := hideF hkp
  have HH := hideF h
  have HO1 := hideF hown
  clear h hown hok hfs hkp
  go_wp2_with fail
  go_loopw [13, 3] (fun q v wr => ∃ n : Nat, n <= fs.length /\ q = .int .i64 (n : Nat) /\ wr.ownsRow w.heap.size 77 4 v (takesZ D (fs.take n)).2.length ((takesZ D (fs.take n)).2.flatMap encA) /\ DevIn wr d L S E wv (takesZ D (fs.take n)).1 /\ wr.ownsRow B 134 4 (.slice a1 fs.length p1) fs.length (fs.flatMap Fd.c) /\ FtT D.base (devT d L S E) w wr) (fun q _ _ => fs.length - (intOf q).toNat)
  case atStart => exact ⟨0, Nat.zero_le _, rfl, World.ownsRow_nil _ _ _ _, HH.out, HO1.out, FtT.refl _ _⟩
  case round =>
    obtain ⟨n, hn, rfl, hown, hD, hfr, hF⟩ := hrel
    by_cases hlt : n < fs.length
    . obtain ⟨x, hx⟩ : ∃ x, fs[n]? = some x := ⟨_, List.getElem?_eq_getElem hlt⟩
      have hxm := HM.out x (List.mem_of_getElem? hx)
      have e1 : fs.take (n + 1) = fs.take n ++ [x] := take_succ_at fs n x hx
      have hsn := takesZ_snoc D (fs.take n) x
      rw [<- e1] at hsn
      obtain ⟨k1, k2, k3, k4, k5, _, _⟩ := HOK.out n hn
      obtain ⟨D2, hD2⟩ : ∃ D2, D2 = (takesZ D (fs.take n)).1 := ⟨_, rfl⟩
      obtain ⟨A2, hA2⟩ : ∃ A2, A2 = (takesZ D (fs.take n)).2 := ⟨_, rfl⟩
      rw [<- hD2] at hD hsn k1 k2 k3 k5
      rw [<- hA2] at hown hsn k4
      have hk4 := takeZ_len D2 x.line x.unit x.body
      obtain ⟨g1, rfl, hg1, f0, f1, f2, f3⟩ := founds_at hfr n x hx
      obtain ⟨X, hX⟩ : ∃ X, X = wr.alloc (.cells #[.int .i64 (x.line : Nat), .int .i64 0, .int .i64 (x.unit : Nat), .string x.body] 134) := ⟨_, rfl⟩
      have hXb : Below wr.heap.size wr X := by rw [hX]; exact bel_alloc (Below.refl _ _) _
      have hbase : D2.base = D.base := k2.base
      have HTX := hideF (take_ser d L S x.line x.unit E wv D2 x.body X (hD.belowQ hXb) k1 (fun i => by rw [k2.kp]; exact HKP.out i) (by rw [k2.nl]; exact hxm.line) (by rw [k2.ln]; exact hxm.kind) hxm.lo hxm.hi k5 (by omega))
      rw [hbase] at HTX
      have HXF := hideF (hF.then_below hXb)
      have HXO := hideF (ownsRow_below hown hXb)
      have HXR := hideF (ownsRow_below hfr hXb)
      have hsX := HXF.out.size
      have HSN := hideF hsn
      clear hXb hown hD hfr hF hsn e1 hxm k1 k2 k3 k5 hx hbase hD2 hA2
      go_wp2_with fail
      rw [<- hX]
      clear hX f0 f1 f2 f3
      refine HTX.out.mono ?_
      rintro e w2 ⟨v2, rfl, hown2, hD3, hF2⟩
      obtain ⟨A3, hA3⟩ : ∃ A3, A3 = (takeZ D2 x.line x.unit x.body).2 := ⟨_, rfl⟩
      rw [<- hA3] at hown2 hk4
      obtain ⟨a3, p3, rfl, _⟩ := own_view hown2
      have HA3 := hideF hA3
      have HD3 := hideF hD3
      have HF2 := hideF (HXF.out.trans hF2)
      have HO2 := hideF (own_ftA HXO.out hF2)
      have HR2 := hideF (own_ft134 HXR.out hF2)
      have HN2 := hideF hown2
      have hs2 := HF2.out.size
      clear hown2 hD3 hF2 HTX hA3 HXF HXO HXR
      have hk5 : A2.length + A3.length <= 100 := by omega
      go_wp2_with (at_builtin; refine wpList_append_any rfl (.tmp 17) (.tmp 23) 31 rfl w.heap.size X.heap.size 77 i0 _ 4 40 Tryz.underlying31 hii0 hz0 hz1 hz2 rfl (by decide) _ A2.length _ rfl HO2.out (.slice a3 A3.length p3) A3.length (A3.flatMap encA) rfl HN2.out (encA_one _) (by unfold maxLen; omega) (by omega) hs2 ?_; intro v4 w4 hown4 hgrow4)
      have HF4 := hideF (HF2.out.grown_new hgrow4 (fun k hk => (HO2.out.lt k hk).1))
      have hG4 := (FtT.refl (B := 0) (fun _ t => t == 77) w2).grown hgrow4 (fun k hk => ⟨Nat.zero_le _, own_block HO2.out k hk⟩) (fun _ => rfl)
      have HD4 := hideF (HD3.out.keep hG4 (fun _ => rfl) (fun _ => rfl) (fun _ => rfl) (fun _ => rfl) (fun _ => rfl))
      have HR4 := hideF (own_same (w' := w4) HR2.out (fun g hg => by obtain ⟨cg, hcg⟩ := own_block HR2.out g hg; exact hG4.keep g cg 134 hcg rfl))
      have HO4 := hideF hown4
      clear hown4 hgrow4 hG4
      go_roundw
      case rel =>
        refine ⟨n + 1, by omega, by go_num, ?_, ?_, HR4.out, HF4.out⟩
        . rw [HSN.out, <- HA3.out, List.length_append, List.flatMap_append]; exact HO4.out
        . rw [HSN.out]; exact HD4.out
      case measure => simp [intOf]; omega
    . obtain rfl : n = fs.length := by omega
      rw [List.take_length] at hown hD
      have HO := hideF hown
      have HD := hideF hD
      have HF := hideF hF
      obtain ⟨a8, p8, rfl, _⟩ := own_view hown
      clear hown hD hF hfr
      go_wp2
      exact ⟨rfl, _, _, _, _, _, _, _, _, _, _, _, _, _, _, _, _, _, _, _, _, _, _, _, _, rfl, HO.out, HD.out, HF.out⟩
end Go.Proofs.YtcpldcojckhapaaGreat
