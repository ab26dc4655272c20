/-
  
-/
import Derived.Test.YtcpldcojckhapaaGreatJ19
import Derived.Test.YtcpldcojckhapaaGreatJ9
import Derived.Test.YtcpldcojckhapaaGreatJ15
set_option maxRecDepth 100000
namespace Go.Proofs.YtcpldcojckhapaaGreat
open Go.RowKit
structure FlOk (D : Dev) : Prop where
  sz : ∀ i, i < 4 -> D.sz i <= 60
  ent : EntOk D.ent
  kp0 : D.kp 0 <= D.sz 0
  kp2 : D.kp 2 <= D.sz 2
  lat : D.lat <= 1
  stamp : D.stamp <= 3
  sec : D.sec = max 1 (((D.kp 0 + 7) / 8 + 2 * D.kp 2 + 61) / 62)
  wlen : D.wait.length <= 8
  uns : D.uns <= D.wait.length
  asc : D.wait.Pairwise (fun a b => a.1 < b.1)
theorem DevOk.fl {D : Dev} (h : DevOk D) : FlOk D := ⟨h.sz, h.ent, h.kp0, h.kp2, h.lat, h.stamp, h.sec, by have := h.wlen; have := h.batch; omega, h.uns, h.asc⟩
theorem flush_p (d L S : Nat) (E : Nat -> Nat) (wv : Value) (D : Dev) (w : World) (h : DevIn w d L S E wv D) (hok : FlOk D) :
    Calls Tryz.prog 24 #[.pointer (some ⟨d, 0, none⟩)] w fun e w' => ∃ v wv', e = .returned v /\ w'.ownsRow w.heap.size 77 4 v (flushP D).2.length ((flushP D).2.flatMap encA) /\ (D.uns ≠ 0 -> wv' = .slice none 0 0) /\ DevIn w' d L S E wv' (flushP D).1 /\ FtT D.base (devT d L S E) w w' := by
  by_cases hu : D.uns = 0
  . have e : flushP D = (D, []) := by unfold flushP; rw [if_pos hu]
    rw [e]
    refine (flush_none d L S E wv w D h hu).mono ?_
    rintro e w' ⟨he, rfl⟩
    exact ⟨_, wv, he, World.ownsRow_nil _ _ _ _, fun h => absurd hu h, h, FtT.refl _ _⟩
  . have e : flushP D = ({ D with lat := (D.lat + 1) % 2, stamp := D.stamp % 3 + 1, uns := 0, wait := [] }, saveA D.sec ((D.lat + 1) % 2) (D.stamp % 3 + 1) (keptB D.ent (D.kp 0) (D.kp 2)) ++ D.wait.map sendOf) := by unfold flushP; rw [if_neg hu]
    rw [e]
    have hkz := keptB_size D.ent (D.kp 0) (D.kp 2)
    have z0 := hok.sz 0 (by omega)
    have z2 := hok.sz 2 (by omega)
    have k0 := hok.kp0
    have k2 := hok.kp2
    have hsec := hok.sec
    have hw := hok.wlen
    have hun := hok.uns
    refine (flush_gen d L S ((D.lat + 1) % 2) (D.stamp % 3 + 1) E wv D (keptB D.ent (D.kp 0) (D.kp 2)) Up8 up8_len (pops_up8 d) D.wait w h (by omega) (fun w1 h1 => kept_gen d L S E wv D w1 h1 hok.sz hok.kp0 hok.kp2 hok.ent) (by rw [hkz]; omega) (by omega) (fun i hi => by rw [hkz]; omega) hok.lat hok.stamp rfl rfl (up8_sorted _ hok.asc hw) (by omega) (by omega)).mono ?_
    rintro e w' ⟨v, he, ho, hD, hF⟩
    refine ⟨v, _, he, ?_, fun _ => rfl, hD, hF⟩
    have hl : (saveA D.sec ((D.lat + 1) % 2) (D.stamp % 3 + 1) (keptB D.ent (D.kp 0) (D.kp 2)) ++ D.wait.map sendOf).length = D.sec + 1 + D.wait.length := by rw [List.length_append, saveA_len, List.length_map]
    rw [hl]
    exact ho
theorem flushP_len (D : Dev) (hok : FlOk D) : (flushP D).2.length <= 20 := by
  unfold flushP
  split
  . simp
  . have z0 := hok.sz 0 (by omega)
    have z2 := hok.sz 2 (by omega)
    have k0 := hok.kp0
    have k2 := hok.kp2
    have hsec := hok.sec
    have hw := hok.wlen
    rw [List.length_append, saveA_len, List.length_map]; omega
theorem mid_fl {D : Dev} {i m : Nat} {s : ByteArray} (hok : DevOk D) (_hn : 0 < (midP D s).uns) : FlOk { midP D s with wait := D.wait ++ [ansP D i m s] } := by
  refine ⟨hok.sz, doE_ok hok.ent (shpOf_is s), hok.kp0, hok.kp2, hok.lat, hok.stamp, hok.sec, ?_, ?_, ?_⟩
  . show (D.wait ++ [ansP D i m s]).length <= 8
    have := hok.wlen
    have := hok.batch
    simp; omega
  . show (if doB D (shpOf s).1 (shpOf s).2 = true then D.uns + 1 else D.uns) <= (D.wait ++ [ansP D i m s]).length
    have := hok.uns
    rw [List.length_append, List.length_singleton]
    split <;> omega
  . show (D.wait ++ [ansP D i m s]).Pairwise (fun a b => a.1 < b.1)
    rw [List.pairwise_append]
    refine ⟨hok.asc, by simp, fun a ha b hb => ?_⟩
    rw [List.mem_singleton.1 hb]
    have := hok.top a ha
    show a.1 < ((D.arr + 1 : Nat) : Int)
    omega
theorem take_any (d L S i m u : Nat) (E : Nat -> Nat) (wv : Value) (D : Dev) (s : ByteArray) (w : World) (h : DevIn w d L S E wv D) (hok : DevOk D) (hi : i < D.nl) (hk : (D.ln i).kind = 0) (hx : Pl.May (m, u, s)) (ha : D.arr <= 900000) :
    Calls Tryz.prog 57 #[.pointer (some ⟨d, 0, none⟩), .int .i64 (i : Nat), .agg #[.int .i64 (m : Nat), .int .i64 (u : Nat), .string s]] w fun e w' => ∃ v wv', e = .returned v /\ w'.ownsRow w.heap.size 77 4 v (takeP D i m u s).2.length ((takeP D i m u s).2.flatMap encA) /\ DevIn w' d L S E wv' (takeP D i m u s).1 /\ FtT D.base (devT d L S E) w w' := by
  by_cases hu : u = D.unit
  . subst hu
    have hm : m < 65536 := hx.1
    have hs1 : 1 <= s.size := hx.2.2.1
    have hs2 : s.size <= 253 := hx.2.2.2
    have hu2 := hok.unit
    have hb2 := hok.batch
    have hwl := hok.wlen
    have hun := hok.uns
    have hsh := shpOf_is s
    have hr := doR_size D s _ _ hok hsh hs2
    have hdo := do_any d L S E wv D s _ _ hsh (by omega) hok.sz hok.ent
    have htop : ∀ y ∈ D.wait, y.1 < ((D.arr + 1 : Nat) : Int) := fun y hy => by have := hok.top y hy; omega
    have hfl := flushP_len
    cases hb : doB D (shpOf s).1 (shpOf s).2
    . rw [hb] at hdo
      have hmu : (midP D s).uns = D.uns := by show (if doB D (shpOf s).1 (shpOf s).2 = true then D.uns + 1 else D.uns) = _; rw [hb]; rfl
      have hme : midP D s = { D with arr := D.arr + 1, ent := doE D (shpOf s).1 (shpOf s).2 } := by unfold midP; rw [hb]; rfl
      by_cases h0 : D.uns = 0
      . have e : takeP D i m D.unit s = (midP D s, [sendOf (ansP D i m s)]) := by unfold takeP; rw [if_neg (by simp), if_pos (by rw [hmu]; exact h0)]
        rw [e, hme]
        refine (take_now d L S i m E wv D s _ _ w h hi hk hm (by omega) (by omega) hr hdo h0 hwl (by omega)).mono ?_
        rintro e w' ⟨v, h1, h2, h3, h4⟩
        exact ⟨v, wv, h1, h2, h3, h4⟩
      . by_cases hbt : D.batch <= D.wait.length + 1
        . have e : takeP D i m D.unit s = flushP { midP D s with wait := D.wait ++ [ansP D i m s] } := by unfold takeP; rw [if_neg (by simp), if_neg (by rw [hmu]; exact h0), if_pos hbt]
          rw [e]
          have hFO := mid_fl (i := i) (m := m) hok (show 0 < (midP D s).uns by rw [hmu]; omega)
          have hnu : (flushP { midP D s with wait := D.wait ++ [ansP D i m s] }).2 ≠ [] := by
            unfold flushP
            rw [if_neg (by show (midP D s).uns ≠ 0; rw [hmu]; exact h0)]
            intro e0
            have := congrArg List.length e0
            simp at this
          refine (take_flushF d L S i m E wv D s _ _ w h hi hk hm (by omega) (by omega) hr hdo (by omega) hbt (by omega) htop (by omega) _ (flushP { midP D s with wait := D.wait ++ [ansP D i m s] }).1 (List.length_pos_iff.2 hnu) (by have := hfl _ hFO; omega) (fun w1 v1 h1 => ?_)).mono ?_
          . have h1' : DevIn w1 d L S E v1 { midP D s with wait := D.wait ++ [ansP D i m s] } := by rw [hme]; exact h1
            refine (flush_p d L S E v1 _ w1 h1' hFO).mono ?_
            rintro e w' ⟨v, wv', g1, g2, g3, g4, g5⟩
            rw [g3 (by show (midP D s).uns ≠ 0; rw [hmu]; exact h0)] at g4
            exact ⟨v, g1, g2, g4, g5⟩
          . rintro e w' ⟨v, h1, h2, h3, h4⟩
            exact ⟨v, _, h1, h2, h3, h4⟩
        . have e : takeP D i m D.unit s = ({ midP D s with wait := D.wait ++ [ansP D i m s] }, []) := by unfold takeP; rw [if_neg (by simp), if_neg (by rw [hmu]; exact h0), if_neg hbt]
          rw [e, hme]
          refine (take_waitF d L S i m E wv D s _ _ w h hi hk hm (by omega) (by omega) hr hdo (by omega) (by omega) (by omega) htop (by omega) (by omega)).mono ?_
          rintro e w' ⟨v', h1, h2, h3⟩
          exact ⟨_, v', h1, World.ownsRow_nil _ _ _ _, h2, h3⟩
    . rw [hb] at hdo
      have hmu : (midP D s).uns = D.uns + 1 := by show (if doB D (shpOf s).1 (shpOf s).2 = true then D.uns + 1 else D.uns) = _; rw [hb]; rfl
      have hme : midP D s = { D with arr := D.arr + 1, ent := doE D (shpOf s).1 (shpOf s).2, uns := D.uns + 1 } := by unfold midP; rw [hb]; rfl
      by_cases hbt : D.batch <= D.wait.length + 1
      . have e : takeP D i m D.unit s = flushP { midP D s with wait := D.wait ++ [ansP D i m s] } := by unfold takeP; rw [if_neg (by simp), if_neg (by rw [hmu]; omega), if_pos hbt]
        rw [e]
        have hFO := mid_fl (i := i) (m := m) hok (show 0 < (midP D s).uns by rw [hmu]; omega)
        have hnu : (flushP { midP D s with wait := D.wait ++ [ansP D i m s] }).2 ≠ [] := by
          unfold flushP
          rw [if_neg (by show (midP D s).uns ≠ 0; rw [hmu]; omega)]
          intro e0
          have := congrArg List.length e0
          simp at this
        refine (take_flush d L S i m E wv D s _ _ w h hi hk hm (by omega) (by omega) hr hdo hbt (by omega) htop (by omega) _ (flushP { midP D s with wait := D.wait ++ [ansP D i m s] }).1 (List.length_pos_iff.2 hnu) (by have := hfl _ hFO; omega) (fun w1 v1 h1 => ?_)).mono ?_
        . have h1' : DevIn w1 d L S E v1 { midP D s with wait := D.wait ++ [ansP D i m s] } := by rw [hme]; exact h1
          refine (flush_p d L S E v1 _ w1 h1' hFO).mono ?_
          rintro e w' ⟨v, wv', g1, g2, g3, g4, g5⟩
          rw [g3 (by show (midP D s).uns ≠ 0; rw [hmu]; omega)] at g4
          exact ⟨v, g1, g2, g4, g5⟩
        . rintro e w' ⟨v, h1, h2, h3, h4⟩
          exact ⟨v, _, h1, h2, h3, h4⟩
      . have e : takeP D i m D.unit s = ({ midP D s with wait := D.wait ++ [ansP D i m s] }, []) := by unfold takeP; rw [if_neg (by simp), if_neg (by rw [hmu]; omega), if_neg hbt]
        rw [e, hme]
        refine (take_waitT d L S i m E wv D s _ _ w h hi hk hm (by omega) (by omega) hr hdo (by omega) (by omega) htop (by omega) (by omega)).mono ?_
        rintro e w' ⟨v', h1, h2, h3⟩
        exact ⟨_, v', h1, World.ownsRow_nil _ _ _ _, h2, h3⟩
  . have e : takeP D i m u s = (D, []) := by unfold takeP; rw [if_pos hu]
    rw [e]
    refine (take_other d L S i m u E wv D s w h hi hk hu).mono ?_
    rintro e w' ⟨h1, h2⟩
    exact ⟨_, wv, h1, World.ownsRow_nil _ _ _ _, h.belowQ h2, FtT.of_below _ h2⟩
theorem flushP_ok {D : Dev} (hok : FlOk D) (hu : 1 <= D.unit /\ D.unit <= 247) (hb : 1 <= D.batch /\ D.batch <= 8) (hn : 1 <= D.nl /\ D.nl <= 4) (h0 : D.uns ≠ 0) : DevOk (flushP D).1 := by
  unfold flushP
  rw [if_neg h0]
  exact ⟨hok.sz, hok.ent, hok.kp0, hok.kp2, hu, hb, hn, by show (D.lat + 1) % 2 <= 1; omega, by show D.stamp % 3 + 1 <= 3; omega, hok.sec, by show 0 < D.batch; omega, Nat.le_refl _, fun _ => rfl, by simp, by simp⟩
theorem takeP_ok {D : Dev} (hok : DevOk D) (i m u : Nat) (s : ByteArray) : DevOk (takeP D i m u s).1 := by
  have hb2 := hok.batch
  have hwl := hok.wlen
  have hun := hok.uns
  unfold takeP
  split
  . exact hok
  . split
    . rename_i h0
      have hd0 : D.uns = 0 := by
        have : (if doB D (shpOf s).1 (shpOf s).2 = true then D.uns + 1 else D.uns) = 0 := h0
        split at this <;> omega
      refine ⟨hok.sz, doE_ok hok.ent (shpOf_is s), hok.kp0, hok.kp2, hok.unit, hok.batch, hok.nl, hok.lat, hok.stamp, hok.sec, hok.wlen, ?_, fun _ => hok.w0 hd0, hok.asc, fun y hy => ?_⟩
      . show (midP D s).uns <= D.wait.length
        rw [h0]; omega
      . have := hok.top y hy
        show y.1 <= ((D.arr + 1 : Nat) : Int)
        omega
    . rename_i h0
      have hFO := mid_fl (i := i) (m := m) hok (show 0 < (midP D s).uns by omega)
      split
      . exact flushP_ok hFO hok.unit hok.batch hok.nl h0
      . rename_i hbt
        refine ⟨hok.sz, hFO.ent, hok.kp0, hok.kp2, hok.unit, hok.batch, hok.nl, hok.lat, hok.stamp, hok.sec, ?_, hFO.uns, fun h => absurd h h0, hFO.asc, fun y hy => ?_⟩
        . show (D.wait ++ [ansP D i m s]).length < D.batch
          simp; omega
        . have hy' : y ∈ D.wait ++ [ansP D i m s] := hy
          rcases List.mem_append.1 hy' with hy | hy
          . have := hok.top y hy
            show y.1 <= ((D.arr + 1 : Nat) : Int)
            omega
          . rw [List.mem_singleton.1 hy]
            exact Int.le_refl _
end Go.Proofs.YtcpldcojckhapaaGreat

set_option maxRecDepth 100000
namespace Go.Proofs.YtcpldcojckhapaaGreat
def tornB (x y : ByteArray) (t : Nat) : ByteArray := x.extract 0 t ++ y.extract t 64
theorem tornB_size {x y : ByteArray} {t : Nat} (hx : x.size = 64) (hy : y.size = 64) (ht : t <= 64) : (tornB x y t).size = 64 := by
  unfold tornB; rw [ByteArray.size_append, ByteArray.size_extract, ByteArray.size_extract]; omega
theorem tornB_zero {x y : ByteArray} (hy : y.size = 64) : tornB x y 0 = y := by
  unfold tornB
  rw [ByteArray.extract_eq_empty_iff.2 (by omega), ByteArray.empty_append]
  have := ByteArray.extract_zero_size (b := y)
  rw [hy] at this; exact this
theorem tornB_full {x y : ByteArray} (hx : x.size = 64) (hy : y.size = 64) : tornB x y 64 = x := by
  have e0 : y.extract 64 64 = ByteArray.empty := ByteArray.extract_eq_empty_iff.2 (by omega)
  unfold tornB
  rw [e0, ByteArray.append_empty]
  have := ByteArray.extract_zero_size (b := x)
  rw [hx] at this; exact this
theorem tornB_0 {x y : ByteArray} {t : Nat} (hx : x.size = 64) (ht : t <= 64) (h0 : 0 < t) : Pl.byt (tornB x y t) 0 = Pl.byt x 0 := by
  unfold tornB
  rw [byt_listQ, ByteArray.data_append, Array.toList_append, List.getD_eq_getElem?_getD, List.getElem?_append_left (by rw [Array.length_toList]; show 0 < ByteArray.size _; rw [ByteArray.size_extract]; omega), <- List.getD_eq_getElem?_getD, <- byt_listQ, Pl.byt_extract _ 0 t 0 (by omega) (by omega)]
theorem tornB_63 {x y : ByteArray} {t : Nat} (hx : x.size = 64) (hy : y.size = 64) (ht : t < 64) : Pl.byt (tornB x y t) 63 = Pl.byt y 63 := by
  have hl : (x.extract 0 t).data.toList.length = t := by
    rw [Array.length_toList]; show ByteArray.size _ = t; rw [ByteArray.size_extract]; omega
  unfold tornB
  rw [byt_listQ, ByteArray.data_append, Array.toList_append, List.getD_eq_getElem?_getD, List.getElem?_append_right (by rw [hl]; omega), hl, <- List.getD_eq_getElem?_getD, <- byt_listQ, Pl.byt_extract _ t 64 (63 - t) (by omega) (by omega), show t + (63 - t) = 63 by omega]
theorem byt_ext {x y : ByteArray} (h : x.size = y.size) (hb : ∀ k, k < x.size -> Pl.byt x k = Pl.byt y k) : x = y := by
  apply ByteArray.ext
  apply Array.ext h
  intro k h1 h2
  have := hb k h1
  rw [byt_listQ, byt_listQ] at this
  rw [List.getD_eq_getElem?_getD, List.getD_eq_getElem?_getD, List.getElem?_eq_getElem (by simpa using h1), List.getElem?_eq_getElem (by simpa using h2)] at this
  simp only [Option.getD_some, Array.getElem_toList] at this
  exact UInt8.toNat_inj.1 this
def DkIs (z sec : Nat) (f : Nat -> ByteArray) (lat st : Nat) (d : ByteArray) : Prop := latC f sec = lat /\ stC f sec = st /\ dataC z sec f = d
def Rdy (sec : Nat) (f : Nat -> ByteArray) (lat st : Nat) : Prop := (∀ i, i < sec -> Pl.byt (f ((1 - lat) * sec + i)) 63 ≠ st % 3 + 1) /\ ∀ i, i < sec -> Pl.byt (f (lat * sec + i)) 63 ≠ (st % 3 + 1) % 3 + 1
theorem stampC_congr {f f' : Nat -> ByteArray} {o sec : Nat} (h1 : 1 <= sec) (h : ∀ i, i < sec -> f' (o + i) = f (o + i)) : stampC f' o sec = stampC f o sec := by
  have h0 : f' o = f o := by have := h 0 (by omega); rwa [Nat.add_zero] at this
  unfold stampC
  rw [h0]
  have : (∀ i, i < sec -> SecOk (f' (o + i)) (Pl.byt (f o) 0)) ↔ (∀ i, i < sec -> SecOk (f (o + i)) (Pl.byt (f o) 0)) := ⟨fun g i hi => by rw [<- h i hi]; exact g i hi, fun g i hi => by rw [h i hi]; exact g i hi⟩
  simp only [this]
theorem catC_congr {f f' : Nat -> ByteArray} {o : Nat} : ∀ {q : Nat}, (∀ i, i < q -> f' (o + i) = f (o + i)) -> catC f' o q = catC f o q := by
  intro q
  induction q with
  | zero => intro _; rfl
  | succ q ih => intro h; rw [catC, catC, ih (fun i hi => h i (by omega)), h q (by omega)]
theorem stamp_chg {f f' : Nat -> ByteArray} {o sec b : Nat} (h : ∀ i, i < sec -> f' (o + i) = f (o + i) ∨ Pl.byt (f' (o + i)) 0 = b) :
    (∀ i, i < sec -> f' (o + i) = f (o + i)) ∨ stampC f' o sec = 0 ∨ (stampC f' o sec = b /\ ∀ i, i < sec -> SecOk (f' (o + i)) b) := by
  by_cases hall : ∀ i, i < sec -> f' (o + i) = f (o + i)
  . exact .inl hall
  . right
    obtain ⟨i, hi⟩ := Classical.not_forall.1 hall
    obtain ⟨hi, hne⟩ := Classical.not_imp.1 hi
    have hb := (h i hi).resolve_left hne
    unfold stampC
    split
    . rename_i g
      have e : Pl.byt (f' o) 0 = b := by rw [<- (g.1 i hi).1]; exact hb
      right
      rw [e] at g ⊢
      exact ⟨rfl, g.1⟩
    . exact .inl rfl
theorem DkIs.st_eq {z sec : Nat} {f : Nat -> ByteArray} {lat st : Nat} {d : ByteArray} (h : DkIs z sec f lat st d) : lat <= 1 /\ st <= 3 /\ st = stampC f (lat * sec) sec /\ (lat = 1 -> st ≠ 0) /\ (st = 0 -> lat = 0 /\ stampC f sec sec = 0) /\ d = if st = 0 then zerosB z else (catC f (lat * sec) sec).extract 0 z := by
  obtain ⟨h1, h2, h3⟩ := h
  have hl := latC_le f sec
  have hs := stC_le f sec
  refine ⟨by omega, by omega, ?_, ?_, ?_, by rw [<- h3, <- h2, <- h1]; rfl⟩
  all_goals unfold latC latL at h1; unfold stC stL at h2
  . split at h1
    . rename_i g
      rw [if_pos g] at h2
      subst h1; rw [Nat.one_mul]; exact h2.symm
    . rename_i g
      rw [if_neg g] at h2
      subst h1; rw [Nat.zero_mul]; exact h2.symm
  . intro e
    subst e
    split at h1
    . rename_i g
      rw [if_pos g] at h2
      omega
    . omega
  . intro e
    subst e
    split at h1
    . rename_i g
      rw [if_pos g] at h2
      omega
    . rename_i g
      rw [if_neg g] at h2
      exact ⟨h1.symm, Classical.byContradiction fun hc => g ⟨hc, .inl h2⟩⟩
theorem DkIs.keep {z sec : Nat} {f f' : Nat -> ByteArray} {lat st : Nat} {d : ByteArray} (h : DkIs z sec f lat st d) (h1 : 1 <= sec) (ha : ∀ i, i < sec -> f' (lat * sec + i) = f (lat * sec + i)) (ho : stampC f' ((1 - lat) * sec) sec = stampC f ((1 - lat) * sec) sec ∨ stampC f' ((1 - lat) * sec) sec = 0) : DkIs z sec f' lat st d := by
  obtain ⟨hl, hs, he, hn, h0, hd⟩ := h.st_eq
  have hc := catC_congr (q := sec) ha
  have hst := stampC_congr h1 ha
  obtain ⟨g1, g2, g3⟩ := h
  have key : latC f' sec = lat /\ stC f' sec = st := by
    unfold latC latL at g1 ⊢
    unfold stC stL at g2 ⊢
    rcases (show lat = 0 ∨ lat = 1 by omega) with rfl | rfl
    . simp only [Nat.sub_zero, Nat.one_mul, Nat.zero_mul] at ho hst he
      rw [hst]
      split at g1
      . omega
      . rename_i g
        rw [if_neg g] at g2
        rcases ho with e | e
        . rw [e, if_neg g, if_neg g]; exact ⟨rfl, g2⟩
        . rw [e, if_neg (by omega), if_neg (by omega)]; exact ⟨rfl, g2⟩
    . simp only [Nat.sub_self, Nat.one_mul, Nat.zero_mul] at ho hst he
      rw [hst]
      split at g1
      . rename_i g
        rw [if_pos g] at g2
        rcases ho with e | e
        . rw [e, if_pos g, if_pos g]; exact ⟨rfl, g2⟩
        . rw [e, if_pos ⟨g.1, .inl rfl⟩, if_pos ⟨g.1, .inl rfl⟩]; exact ⟨rfl, g2⟩
      . omega
  refine ⟨key.1, key.2, ?_⟩
  unfold dataC
  rw [key.1, key.2, hc]
  exact hd.symm
theorem DkIs.blank {z sec : Nat} {f f' : Nat -> ByteArray} {lat st : Nat} {d : ByteArray} (h : DkIs z sec f lat st d) (h1 : 1 <= sec) (ho : ∀ i, i < sec -> f' ((1 - lat) * sec + i) = f ((1 - lat) * sec + i) ∨ Pl.byt (f' ((1 - lat) * sec + i)) 0 = 0) (ha : ∀ i, i < sec -> f' (lat * sec + i) = f (lat * sec + i) ∨ (st = 0 /\ Pl.byt (f' (lat * sec + i)) 0 = 0)) : DkIs z sec f' lat st d := by
  have hso : stampC f' ((1 - lat) * sec) sec = stampC f ((1 - lat) * sec) sec ∨ stampC f' ((1 - lat) * sec) sec = 0 := by
    rcases stamp_chg ho with g | g | g
    . exact .inl (stampC_congr h1 g)
    . exact .inr g
    . exact .inr g.1
  by_cases hs : st = 0
  . obtain ⟨hl, _, he, _, h0, hd⟩ := h.st_eq
    obtain ⟨rfl, hc0⟩ := h0 hs
    simp only [Nat.zero_mul, Nat.sub_zero, Nat.one_mul] at he hso ha
    have ha0 : stampC f' 0 sec = 0 := by
      rcases stamp_chg (b := 0) (fun i hi => (ha i hi).imp id (·.2)) with g | g | g
      . rw [stampC_congr h1 g]; omega
      . exact g
      . exact g.1
    have hc : stampC f' sec sec = 0 := by rcases hso with g | g <;> omega
    have hst : stC f' sec = 0 := by unfold stC stL; rw [ha0, hc]; simp
    refine ⟨by unfold latC latL; rw [hc]; simp, by rw [hst, hs], ?_⟩
    unfold dataC
    rw [if_pos hst, hd, if_pos hs]
  . exact h.keep h1 (fun i hi => (ha i hi).elim id (fun g => absurd g.1 hs)) hso
theorem next_ne (st : Nat) : (st % 3 + 1) % 3 + 1 ≠ st % 3 + 1 /\ ((st % 3 + 1) % 3 + 1) % 3 + 1 ≠ st % 3 + 1 /\ (1 <= st -> st <= 3 -> st % 3 + 1 ≠ st /\ (st % 3 + 1) % 3 + 1 ≠ st) := by omega
theorem DkIs.torn {z sec : Nat} {f f' : Nat -> ByteArray} {lat st : Nat} {d : ByteArray} (h : DkIs z sec f lat st d) (hr : Rdy sec f lat st) (h1 : 1 <= sec) (X : Nat -> ByteArray) (hX : ∀ i, i < sec -> (X i).size = 64 /\ Pl.byt (X i) 0 = st % 3 + 1) (hf : ∀ i, i < sec -> (f ((1 - lat) * sec + i)).size = 64)
    (ha : ∀ i, i < sec -> f' (lat * sec + i) = f (lat * sec + i)) (ht : ∀ i, i < sec -> ∃ t, t <= 64 /\ f' ((1 - lat) * sec + i) = tornB (X i) (f ((1 - lat) * sec + i)) t) :
    (∀ i, i < sec -> f' ((1 - lat) * sec + i) = X i) ∨ DkIs z sec f' lat st d := by
  have hc : ∀ i, i < sec -> f' ((1 - lat) * sec + i) = f ((1 - lat) * sec + i) ∨ Pl.byt (f' ((1 - lat) * sec + i)) 0 = st % 3 + 1 := fun i hi => by
    obtain ⟨t, ht, e⟩ := ht i hi
    rcases Nat.eq_zero_or_pos t with h0 | h0
    . left; rw [e, h0, tornB_zero (hf i hi)]
    . right; rw [e, tornB_0 (hX i hi).1 ht h0]; exact (hX i hi).2
  rcases stamp_chg hc with g | g | g
  . exact .inr (h.keep h1 ha (.inl (stampC_congr h1 g)))
  . exact .inr (h.keep h1 ha (.inr g))
  . left
    intro i hi
    obtain ⟨t, ht, e⟩ := ht i hi
    by_cases h64 : t = 64
    . rw [e, h64, tornB_full (hX i hi).1 (hf i hi)]
    . have := (g.2 i hi).2
      rw [e, tornB_63 (hX i hi).1 (hf i hi) (by omega)] at this
      exact absurd this (hr.1 i hi)
theorem catC_byt {f : Nat -> ByteArray} {o : Nat} : ∀ (q : Nat), (∀ i, i < q -> (f (o + i)).size = 64) -> ∀ k, k < 62 * q -> Pl.byt (catC f o q) k = Pl.byt (f (o + k / 62)) (1 + k % 62) := by
  intro q
  induction q with
  | zero => intro _ k hk; omega
  | succ q ih =>
    intro h k hk
    have hz := catC_size f o q (fun i hi => h i (by omega))
    have hzl : (catC f o q).data.toList.length = 62 * q := by rw [Array.length_toList]; exact hz
    rw [catC, byt_listQ, ByteArray.data_append, Array.toList_append, List.getD_eq_getElem?_getD]
    by_cases hk2 : k < 62 * q
    . rw [List.getElem?_append_left (by omega), <- List.getD_eq_getElem?_getD, <- byt_listQ]
      exact ih (fun i hi => h i (by omega)) k hk2
    . have hq := h q (by omega)
      rw [List.getElem?_append_right (by omega), hzl, <- List.getD_eq_getElem?_getD, <- byt_listQ, Pl.byt_extract _ 1 63 _ (by omega) (by omega), show k / 62 = q by omega, show k % 62 = k - 62 * q by omega]
theorem DkIs.save {z sec : Nat} {f f' : Nat -> ByteArray} {lat st : Nat} {d d' : ByteArray} (h : DkIs z sec f lat st d) (hr : Rdy sec f lat st) (h1 : 1 <= sec) (hz : d'.size = z) (hzs : z <= 62 * sec)
    (ha : ∀ i, i < sec -> f' (lat * sec + i) = f (lat * sec + i)) (ht : ∀ i, i < sec -> f' ((1 - lat) * sec + i) = secB (st % 3 + 1) (d'.extract (i * 62) d'.size)) :
    DkIs z sec f' (1 - lat) (st % 3 + 1) d' /\ Rdy sec f' (1 - lat) (st % 3 + 1) := by
  obtain ⟨hl, hs, he, hn, h0, _⟩ := h.st_eq
  have hst := stampC_congr h1 ha
  have hb : (st % 3 + 1) % 256 = st % 3 + 1 := by omega
  have hnew : stampC f' ((1 - lat) * sec) sec = st % 3 + 1 := by
    have h00 := ht 0 (by omega)
    rw [Nat.add_zero] at h00
    have hcond : (∀ i, i < sec -> SecOk (f' ((1 - lat) * sec + i)) (st % 3 + 1)) /\ st % 3 + 1 <= 3 := ⟨fun i hi => by rw [ht i hi]; exact ⟨by rw [secB_0, hb], by rw [secB_63, hb]⟩, by omega⟩
    unfold stampC
    rw [h00, secB_0, hb, if_pos hcond]
  have nn := next_ne st
  have key : latC f' sec = 1 - lat /\ stC f' sec = st % 3 + 1 := by
    unfold latC stC latL stL
    rcases (show lat = 0 ∨ lat = 1 by omega) with rfl | rfl
    . simp only [Nat.sub_zero, Nat.one_mul, Nat.zero_mul] at hnew hst he
      rw [hst, hnew, <- he, if_pos ⟨by omega, .inr rfl⟩, if_pos ⟨by omega, .inr rfl⟩]
      exact ⟨rfl, rfl⟩
    . simp only [Nat.sub_self, Nat.one_mul, Nat.zero_mul] at hnew hst he
      have hs0 := hn rfl
      rw [hst, hnew, <- he, if_neg (by omega), if_neg (by omega)]
      exact ⟨rfl, rfl⟩
  refine ⟨⟨key.1, key.2, ?_⟩, ?_, fun i hi => ?_⟩
  . unfold dataC
    rw [key.1, key.2, if_neg (by omega)]
    have hsz : ∀ i, i < sec -> (f' ((1 - lat) * sec + i)).size = 64 := fun i hi => by rw [ht i hi, secB_size]
    have hcs := catC_size f' ((1 - lat) * sec) sec hsz
    apply byt_ext
    . rw [ByteArray.size_extract, hcs]; omega
    . intro k hk
      rw [ByteArray.size_extract, hcs] at hk
      rw [Pl.byt_extract _ 0 z k (by omega) (by omega), Nat.zero_add, catC_byt sec hsz k (by omega), ht _ (by omega), secB_in _ _ _ (by omega), Pl.byt_suffix]
      congr 1; omega
  . have e : 1 - (1 - lat) = lat := by omega
    rw [e]
    exact fun i hi => by rw [ha i hi]; exact hr.2 i hi
  . rw [ht i hi, secB_63, hb]; omega
end Go.Proofs.YtcpldcojckhapaaGreat
