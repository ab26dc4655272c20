/-
  
-/
import Derived.Test.YtcpldcojckhapaaGreatJ32
import Derived.Test.YtcpldcojckhapaaGreatJ30
import Derived.Test.YtcpldcojckhapaaGreatJ31
set_option maxRecDepth 100000
namespace Go.Proofs.YtcpldcojckhapaaGreat
open Go.RowKit
structure ShpOk (s : ByteArray) (x : Pl.Shp) : Prop where
  size : 0 < s.size
  tab : x.tab < 4
  into : x.into < 4
  frm : x.frm <= 100000
  cnt : x.cnt <= 100000
  to' : x.to <= 100000
  many : x.many <= 100000
  kind : (∃ t a o : Nat, a < 65536 /\ o < 65536 /\ x = ⟨22, 2, t, 1, 2, t, 1, [((a : Nat) : Int), ((o : Nat) : Int)]⟩) ∨ (x.fn ≠ 22 /\ x.vals.length = x.many)
  vals : ∀ v ∈ x.vals, 0 <= v /\ v < 65536 /\ (x.into < 2 -> v < 2)
  fn : (x.fn = 5 ∨ x.fn = 6 ∨ x.fn = 22) ∨ ((x.fn = 15 ∨ x.fn = 16) /\ 5 <= s.size) ∨ (x.fn ≠ 5 /\ x.fn ≠ 6 /\ x.fn ≠ 22 /\ x.fn ≠ 15 /\ x.fn ≠ 16)
theorem wordsL_mem (s : ByteArray) (t n : Nat) : ∀ v ∈ Pl.wordsL s t n, 0 <= v /\ v < 65536 := fun v hv => by
  unfold Pl.wordsL at hv
  obtain ⟨i, _, rfl⟩ := List.mem_map.1 hv
  have := Pl.wd_lt s (t + 2 * i)
  omega
theorem bitsL_mem (s : ByteArray) (t n : Nat) : ∀ v ∈ Pl.bitsL s t n, 0 <= v /\ v < 2 := fun v hv => by
  unfold Pl.bitsL at hv
  obtain ⟨i, _, rfl⟩ := List.mem_map.1 hv
  have := Pl.bit_lt s t i
  omega
theorem shp_ok {s : ByteArray} {x : Pl.Shp} {k : Nat} (h : Pl.ShpIs s x k) : (k = 0 /\ ShpOk s x) ∨ ((k = 1 ∨ k = 3) /\ x = Pl.noShp) := by
  have w1 := Pl.wd_lt s 1
  have w3 := Pl.wd_lt s 3
  have w5 := Pl.wd_lt s 5
  have w7 := Pl.wd_lt s 7
  unfold Pl.ShpIs at h
  rcases h with ⟨_, rfl, rfl⟩ | ⟨hs, h⟩
  . exact .inr ⟨.inr rfl, rfl⟩
  . rcases h with ⟨e, h⟩ | ⟨e, h⟩ | ⟨e, h⟩ | ⟨e, h⟩ | ⟨e, h⟩ | ⟨e, h⟩ | ⟨e, h⟩ | ⟨e, h⟩ | ⟨e, h⟩ | ⟨e, h⟩ | ⟨e, rfl, rfl⟩
    . rcases h with ⟨hr, rfl, rfl⟩ | ⟨_, rfl, rfl⟩
      . exact .inl ⟨rfl, hs.1, by simp, by simp, by simp only; omega, by simp only; omega, by simp, by simp, .inr ⟨by simp, rfl⟩, by simp, by simp⟩
      . exact .inr ⟨.inr rfl, rfl⟩
    . rcases h with ⟨hr, rfl, rfl⟩ | ⟨_, rfl, rfl⟩
      . exact .inl ⟨rfl, hs.1, by simp, by simp, by simp only; omega, by simp only; omega, by simp, by simp, .inr ⟨by simp, rfl⟩, by simp, by simp⟩
      . exact .inr ⟨.inr rfl, rfl⟩
    . rcases h with ⟨hr, rfl, rfl⟩ | ⟨_, rfl, rfl⟩
      . exact .inl ⟨rfl, hs.1, by simp, by simp, by simp only; omega, by simp only; omega, by simp, by simp, .inr ⟨by simp, rfl⟩, by simp, by simp⟩
      . exact .inr ⟨.inr rfl, rfl⟩
    . rcases h with ⟨hr, rfl, rfl⟩ | ⟨_, rfl, rfl⟩
      . exact .inl ⟨rfl, hs.1, by simp, by simp, by simp only; omega, by simp only; omega, by simp, by simp, .inr ⟨by simp, rfl⟩, by simp, by simp⟩
      . exact .inr ⟨.inr rfl, rfl⟩
    . rcases h with ⟨hr, rfl, rfl⟩ | ⟨_, rfl, rfl⟩
      . exact .inl ⟨rfl, hs.1, by simp, by simp, by simp, by simp, by simp only; omega, by simp, .inr ⟨by simp, rfl⟩, fun v hv => by
          have : v = ((Pl.wd s 3 / 65280 : Nat) : Int) := by simpa using hv
          subst this
          exact ⟨by omega, by omega, fun _ => by omega⟩, by simp⟩
      . exact .inr ⟨.inr rfl, rfl⟩
    . rcases h with ⟨hr, rfl, rfl⟩ | ⟨_, rfl, rfl⟩
      . exact .inl ⟨rfl, hs.1, by simp, by simp, by simp, by simp, by simp only; omega, by simp, .inr ⟨by simp, rfl⟩, fun v hv => by
          have : v = ((Pl.wd s 3 : Nat) : Int) := by simpa using hv
          subst this
          exact ⟨by omega, by omega, fun h => absurd h (by simp)⟩, by simp⟩
      . exact .inr ⟨.inr rfl, rfl⟩
    . rcases h with ⟨hr, rfl, rfl⟩ | ⟨_, rfl, rfl⟩
      . exact .inl ⟨rfl, hs.1, by simp, by simp, by simp, by simp, by simp only; omega, by simp only; omega, .inr ⟨by simp, Pl.bitsL_len _ _ _⟩, fun v hv => by
          have := bitsL_mem s 6 _ v hv
          exact ⟨this.1, by omega, fun _ => this.2⟩, .inr (.inl ⟨.inl rfl, by have := hr.1; omega⟩)⟩
      . exact .inr ⟨.inr rfl, rfl⟩
    . rcases h with ⟨hr, rfl, rfl⟩ | ⟨_, rfl, rfl⟩
      . exact .inl ⟨rfl, hs.1, by simp, by simp, by simp, by simp, by simp only; omega, by simp only; omega, .inr ⟨by simp, Pl.wordsL_len _ _ _⟩, fun v hv => by
          have := wordsL_mem s 6 _ v hv
          exact ⟨this.1, this.2, fun h => absurd h (by simp)⟩, .inr (.inl ⟨.inr rfl, by have := hr.1; omega⟩)⟩
      . exact .inr ⟨.inr rfl, rfl⟩
    . rcases h with ⟨hr, rfl, rfl⟩ | ⟨_, rfl, rfl⟩
      . have hw : Pl.wordsL s 3 2 = [((Pl.wd s 3 : Nat) : Int), ((Pl.wd s 5 : Nat) : Int)] := rfl
        exact .inl ⟨rfl, hs.1, by simp, by simp, by simp only; omega, by simp, by simp only; omega, by simp, .inl ⟨Pl.wd s 1, Pl.wd s 3, Pl.wd s 5, w3, w5, by rw [hw]⟩, fun v hv => by
          have := wordsL_mem s 3 _ v hv
          exact ⟨this.1, this.2, fun h => absurd h (by simp)⟩, by simp⟩
      . exact .inr ⟨.inr rfl, rfl⟩
    . rcases h with ⟨hr, rfl, rfl⟩ | ⟨_, rfl, rfl⟩
      . exact .inl ⟨rfl, hs.1, by simp, by simp, by simp only; omega, by simp only; omega, by simp only; omega, by simp only; omega, .inr ⟨by simp, Pl.wordsL_len _ _ _⟩, fun v hv => by
          have := wordsL_mem s 10 _ v hv
          exact ⟨this.1, this.2, fun h => absurd h (by simp)⟩, by simp⟩
      . exact .inr ⟨.inr rfl, rfl⟩
    . exact .inr ⟨.inl rfl, rfl⟩
def EntOk (f : Nat -> Nat -> Int) : Prop := ∀ i k, 0 <= f i k /\ f i k < 65536 /\ (i < 2 -> f i k < 2)
def doX (D : Dev) (x : Pl.Shp) (k : Nat) : Nat := if k ≠ 0 then k else if hasB D x = true then 0 else 2
def readP (f : Nat -> Nat -> Int) (x : Pl.Shp) : ByteArray := if x.tab < 2 then Pl.packB (fun j => (f x.tab (x.frm + j)).toNat) x.cnt ((x.cnt + 7) / 8) else wordsB ((List.range x.cnt).map fun j => (f x.tab (x.frm + j)).toNat)
def answP (f : Nat -> Nat -> Int) (s : ByteArray) (x : Pl.Shp) : ByteArray := if x.fn = 5 ∨ x.fn = 6 ∨ x.fn = 22 then s else if x.fn = 15 ∨ x.fn = 16 then s.extract 0 5 else toldB s (readP f x)
def entD (D : Dev) (x : Pl.Shp) : Nat -> Nat -> Int := if x.fn = 22 then entSet D x.to (maskN (D.ent 2 x.to).toNat (x.vals.getD 0 0).toNat (x.vals.getD 1 0).toNat) else entW D x
def doE (D : Dev) (x : Pl.Shp) (k : Nat) : Nat -> Nat -> Int := if doX D x k = 0 then entD D x else D.ent
def doR (D : Dev) (s : ByteArray) (x : Pl.Shp) (k : Nat) : ByteArray := if doX D x k = 0 then answP (entD D x) s x else excB s (doX D x k)
def doB (D : Dev) (x : Pl.Shp) (k : Nat) : Bool := decide (doX D x k = 0) && (decide (0 < x.many) && decide (x.to < D.kp x.into))
theorem entD_ok {D : Dev} {s : ByteArray} {x : Pl.Shp} (h : EntOk D.ent) (hx : ShpOk s x) : EntOk (entD D x) := by
  intro i k
  unfold entD
  split
  . rename_i hf
    rcases hx.kind with ⟨t, a, o, ha, ho, rfl⟩ | ⟨hne, _⟩
    . unfold entSet
      split
      . have := maskN_lt (D.ent 2 t).toNat a o ha ho
        refine ⟨by omega, ?_, fun hi => by omega⟩
        have e : ((maskN (D.ent 2 t).toNat (([((a : Nat) : Int), ((o : Nat) : Int)] : List Int).getD 0 0).toNat (([((a : Nat) : Int), ((o : Nat) : Int)] : List Int).getD 1 0).toNat : Nat) : Int) = ((maskN (D.ent 2 t).toNat a o : Nat) : Int) := rfl
        simp only
        rw [e]; omega
      . exact h i k
    . exact absurd hf hne
  . unfold entW
    split
    . rename_i hc
      have hlt : k - x.to < x.vals.length := by omega
      have hm : x.vals.getD (k - x.to) 0 ∈ x.vals := by
        rw [List.getD_eq_getElem?_getD, List.getElem?_eq_getElem hlt]
        exact List.getElem_mem hlt
      have := hx.vals _ hm
      exact ⟨this.1, this.2.1, fun hi => this.2.2 (by omega)⟩
    . exact h i k
theorem doE_ok {D : Dev} {s : ByteArray} {x : Pl.Shp} {k : Nat} (h : EntOk D.ent) (hx : Pl.ShpIs s x k) : EntOk (doE D x k) := by
  unfold doE
  split
  . rename_i h0
    rcases shp_ok hx with ⟨_, ho⟩ | ⟨hk, _⟩
    . exact entD_ok h ho
    . unfold doX at h0
      rw [if_pos (by omega)] at h0
      omega
  . exact h
theorem readP_size (f : Nat -> Nat -> Int) (x : Pl.Shp) (h : x.cnt <= 100) : (readP f x).size <= 200 := by
  unfold readP
  split
  . rw [Pl.packB_size]; omega
  . rw [wordsB_size]; simp; omega
theorem do_any (d L S : Nat) (E : Nat -> Nat) (wv : Value) (D : Dev) (s : ByteArray) (x : Pl.Shp) (k : Nat) (hsh : Pl.ShpIs s x k) (hs : 0 < s.size) (hz : ∀ i, i < 4 -> D.sz i <= 60) (he : EntOk D.ent) : DoIs d L S E wv D s (doR D s x k) (doB D x k) (doE D x k) := by
  intro x2 v k2 B w hsh2 hD hown
  obtain ⟨rfl, rfl⟩ := Pl.ShpIs.eq hsh2 hsh
  clear hsh2
  obtain ⟨av, cv, rfl, _⟩ := own_view hown
  have hDs : DevIn w d L S E wv { D with arr := D.arr + 1, ent := D.ent } := hD
  rcases shp_ok hsh with ⟨rfl, hx⟩ | ⟨hk, _⟩
  . by_cases hh : hasB D x2 = true
    . have h0 : doX D x2 0 = 0 := by unfold doX; rw [if_neg (by omega), if_pos hh]
      have eE : doE D x2 0 = entD D x2 := by unfold doE; rw [if_pos h0]
      have eR : doR D s x2 0 = answP (entD D x2) s x2 := by unfold doR; rw [if_pos h0]
      have eB : doB D x2 0 = (decide (0 < x2.many) && decide (x2.to < D.kp x2.into)) := by unfold doB; rw [h0]; rfl
      rw [eE, eR, eB]
      have hok := entD_ok he hx
      have hhas : x2.frm + x2.cnt <= D.sz x2.tab /\ x2.to + x2.many <= D.sz x2.into := by
        unfold hasB at hh
        simpa only [Bool.and_eq_true, decide_eq_true_eq] using hh
      have hA : ∀ (a : Option Addr) (n c : Nat) (w1 : World), Value.slice av x2.vals.length cv = .slice a n c -> DevIn w1 d L S E wv { D with arr := D.arr + 1, ent := entD D x2 } -> Calls Tryz.prog 116 #[reqV s x2 (.slice a n c) 0, .pointer (some ⟨d, 3, none⟩)] w1 fun e w' => e = .returned (.string (answP (entD D x2) s x2)) /\ Below w1.heap.size w1 w' := by
        intro a n c w1 _ hD1
        have ht := hz x2.tab hx.tab
        rcases hx.fn with hf | ⟨hf, h5⟩ | hf
        . unfold answP
          rw [if_pos hf]
          exact answer_body d s x2 a n c 0 w1 hf
        . unfold answP
          rw [if_neg (by omega), if_pos hf]
          exact answer_five d s x2 a n c 0 w1 hf h5
        . unfold answP
          rw [if_neg (by omega), if_neg (by omega)]
          refine answer_told d s (readP (entD D x2) x2) x2 a n c 0 w1 hf hs (by have := readP_size (entD D x2) x2 (by omega); omega) (fun W hW => ?_)
          have hDW := hD1.belowQ hW
          unfold readP
          by_cases h2 : x2.tab < 2
          . rw [if_pos h2]
            refine read_bits d L S E wv _ x2 n a c _ W hDW h2 (by show _ <= D.sz x2.tab; omega) (by show D.sz x2.tab <= 1000; omega) (fun i => ?_) (fun j _ => ?_)
            . have := hok x2.tab (x2.frm + i)
              have := this.2.2 h2
              omega
            . have := (hok x2.tab (x2.frm + j)).1
              show entD D x2 x2.tab (x2.frm + j) = _
              omega
          . rw [if_neg h2]
            refine read_words d L S E wv _ x2 n a c _ W hDW hx.tab (by omega) (by show _ <= D.sz x2.tab; omega) (by show D.sz x2.tab <= 1000; omega) (by simp) (fun y hy => ?_) (fun j y hj => ?_)
            . obtain ⟨i, _, rfl⟩ := List.mem_map.1 hy
              have := hok x2.tab (x2.frm + i)
              omega
            . have hjl : j < x2.cnt := by have := (List.getElem?_eq_some_iff.1 hj).1; simpa using this
              rw [List.getElem?_map, List.getElem?_range hjl] at hj
              have hy : (entD D x2 x2.tab (x2.frm + j)).toNat = y := by simpa using hj
              have := (hok x2.tab (x2.frm + j)).1
              show entD D x2 x2.tab (x2.frm + j) = _
              omega
      rcases hx.kind with ⟨t, a, o, ha, ho, hxe⟩ | ⟨hne, hlen⟩
      . have hfit : t < D.sz 2 := by
          have := hhas.2
          rw [hxe] at this
          simp only at this
          omega
        have hn := he 2 t
        have eN : D.ent 2 t = (((D.ent 2 t).toNat : Nat) : Int) := by omega
        have eD : entD D x2 = entSet D t (maskN (D.ent 2 t).toNat a o) := by rw [hxe]; rfl
        have := do_gen d L S B 2 E wv { D with arr := D.arr + 1 } s x2 (.slice av x2.vals.length cv) (decide (0 < x2.many) && decide (x2.to < D.kp x2.into)) (answP (entD D x2) s x2) (entD D x2) w hD hx.tab hx.into (by omega) hown hh hx.frm hx.cnt hx.to' hx.many (by
          intro w1 hD1 ho1
          rw [eD]
          subst hxe
          exact write_mask d L S B t (D.ent 2 t).toNat a o E wv { D with arr := D.arr + 1 } _ _ w1 hD1 ho1 hfit eN (by omega) ha ho (by simp)) hA
        exact this.mono fun e w' h => ⟨h.1, h.2.1, 2, by omega, h.2.2⟩
      . have eD : entD D x2 = entW D x2 := by unfold entD; rw [if_neg hne]
        have := do_gen d L S B x2.into E wv { D with arr := D.arr + 1 } s x2 (.slice av x2.vals.length cv) (decide (0 < x2.many) && decide (x2.to < D.kp x2.into)) (answP (entD D x2) s x2) (entD D x2) w hD hx.tab hx.into hx.into hown hh hx.frm hx.cnt hx.to' hx.many (by
          intro w1 hD1 ho1
          rw [eD]
          exact write_copy d L S B E wv { D with arr := D.arr + 1 } x2 _ _ w1 hD1 hx.into hne ho1 (by show _ <= D.sz x2.into; omega) hx.many rfl) hA
        exact this.mono fun e w' h => ⟨h.1, h.2.1, x2.into, hx.into, h.2.2⟩
    . have hh' : hasB D x2 = false := by simpa using hh
      have h0 : doX D x2 0 = 2 := by unfold doX; rw [if_neg (by omega), if_neg hh]
      have eE : doE D x2 0 = D.ent := by unfold doE; rw [if_neg (by omega)]
      have eR : doR D s x2 0 = excB s 2 := by unfold doR; rw [if_neg (by omega), h0]
      have eB : doB D x2 0 = false := by unfold doB; rw [h0]; rfl
      rw [eE, eR, eB]
      refine (do_nothere d L S E wv { D with arr := D.arr + 1 } s x2 _ _ av cv w hD hx.tab hx.into hx.frm hx.cnt hx.to' hx.many rfl hh' hs).mono fun e w' h => ⟨h.1, hDs.belowQ h.2, 0, by omega, Chg1.of_below _ h.2⟩
  . have h0 : doX D x2 k2 = k2 := by unfold doX; rw [if_pos (by omega)]
    have eE : doE D x2 k2 = D.ent := by unfold doE; rw [if_neg (by omega)]
    have eR : doR D s x2 k2 = excB s k2 := by unfold doR; rw [if_neg (by omega), h0]
    have eB : doB D x2 k2 = false := by unfold doB; rw [h0]; have : decide (k2 = 0) = false := by simp; omega
                                        rw [this]; rfl
    rw [eE, eR, eB]
    refine (do_refused d k2 s x2 _ _ av cv w rfl (by omega) (by omega) hs).mono fun e w' h => ⟨h.1, hDs.belowQ h.2, 0, by omega, Chg1.of_below _ h.2⟩
end Go.Proofs.YtcpldcojckhapaaGreat

set_option maxRecDepth 100000
namespace Go.Proofs.YtcpldcojckhapaaGreat
open Go.RowKit
set_option maxRecDepth 100000 in
set_option maxHeartbeats 2000000 in
theorem take_flushF (d L S i m : Nat) (E : Nat -> Nat) (wv : Value) (D : Dev) (s r : ByteArray) (f : Nat -> Nat -> Int) (w : World) (h : DevIn w d L S E wv D) (hi : i < D.nl) (hk : (D.ln i).kind = 0) (hm : m < 65536) (hun : D.unit < 256) (ha : D.arr <= 1000000000) (hr : r.size <= 253) (hdo : DoIs d L S E wv D s r false f) (hu : 0 < D.uns) (hwl : D.batch <= D.wait.length + 1) (_hub : D.uns <= 1000) (hx : ∀ y ∈ D.wait, y.1 < ((D.arr + 1 : Nat) : Int)) (hw1 : D.wait.length <= 1000) (A : List (Int × Int × Int × ByteArray)) (D3 : Dev) (hA0 : 0 < A.length) (hA1 : A.length <= 1000)
    (hfl : ∀ (w1 : World) (v1 : Value), DevIn w1 d L S E v1 { D with arr := D.arr + 1, ent := f, wait := D.wait ++ [(((D.arr + 1 : Nat) : Int), ((i : Nat) : Int), streamB m D.unit r)] } -> Calls Tryz.prog 24 #[.pointer (some ⟨d, 0, none⟩)] w1 fun e w' => ∃ v, e = .returned v /\ w'.ownsRow w1.heap.size 77 4 v A.length (A.flatMap encA) /\ DevIn w' d L S E (.slice none 0 0) D3 /\ FtT D.base (devT d L S E) w1 w') :
    Calls Tryz.prog 57 #[.pointer (some ⟨d, 0, none⟩), .int .i64 (i : Nat), .agg #[.int .i64 (m : Nat), .int .i64 (D.unit : Nat), .string s]] w fun e w' => ∃ v, e = .returned v /\ w'.ownsRow w.heap.size 77 4 v A.length (A.flatMap encA) /\ DevIn w' d L S E (.slice none 0 0) D3 /\ FtT D.base (devT d L S E) w w' := by
  obtain ⟨aw, cw, rfl, _⟩ := own_view h.wait
  obtain ⟨c0, c1, c2, c11, c12, c13, c14, cf, hdl⟩ := h.cells
  obtain ⟨W, hW⟩ : ∃ W, W = w.alloc (.cells #[.int .i64 (m : Nat), .int .i64 (D.unit : Nat), .string s] 94) := ⟨_, rfl⟩
  have hWb : Below w.heap.size w W := by rw [hW]; exact bel_alloc (Below.refl _ _) _
  have hWg : W.heap[w.heap.size]? = some (.cells #[.int .i64 (m : Nat), .int .i64 (D.unit : Nat), .string s] 94 (0, 0)) := by rw [hW]; exact heap_alloc_new w _
  have hWl : W.heap.size = w.heap.size + 1 := by rw [hW]; simp
  have HH := hideF h
  have HWb := hideF hWb
  have HWg := hideF hWg
  obtain ⟨i0, hi0, hz0, hz1, hz2⟩ := info_parts Tryz.infoEA
  have HFL := hideF hfl
  have HDO := hideF hdo
  have HXX := hideF hx
  clear h hWb hWg hdo hx hfl
  go_enter Tryz.func57, Tryz.ntmps57
  go_wp2_with fail
  rw [<- hW]
  clear hW
  refine (newRequest_any s W).mono ?_
  rintro e w1 ⟨x, v, k, rfl, hown, hsh, hlen, hb⟩
  unfold reqV
  obtain ⟨av, cv, rfl, _⟩ := own_view hown
  obtain ⟨X, hX⟩ : ∃ X, X = w1.alloc (.cells #[.string s, .int .i64 (x.fn : Nat), .int .i64 (x.tab : Nat), .int .i64 (x.frm : Nat), .int .i64 (x.cnt : Nat), .int .i64 (x.into : Nat), .int .i64 (x.to : Nat), .int .i64 (x.many : Nat), .slice av x.vals.length cv, .int .u8 (k : Nat)] 146) := ⟨_, rfl⟩
  have hX1 : Below w1.heap.size w1 X := by rw [hX]; exact bel_alloc (Below.refl _ _) _
  have hXb : Below w.heap.size w X := bel_then (bel_then HWb.out hb) hX1
  have hXg : X.heap[w.heap.size]? = some (.cells #[.int .i64 (m : Nat), .int .i64 (D.unit : Nat), .string s] 94 (0, 0)) := (hX1.block _ (by have := hb.size; omega)).trans ((hb.block _ (by omega)).trans HWg.out)
  have hXr : X.heap[w1.heap.size]? = some (.cells #[.string s, .int .i64 (x.fn : Nat), .int .i64 (x.tab : Nat), .int .i64 (x.frm : Nat), .int .i64 (x.cnt : Nat), .int .i64 (x.into : Nat), .int .i64 (x.to : Nat), .int .i64 (x.many : Nat), .slice av x.vals.length cv, .int .u8 (k : Nat)] 146 (0, 0)) := by rw [hX]; exact heap_alloc_new w1 _
  have HXO := hideF (ownsRow_below hown hX1)
  have HXb := hideF hXb
  have HXg := hideF hXg
  have HXr := hideF hXr
  have hsz1 : w.heap.size < w1.heap.size := by have := hb.size; omega
  have HSH := hideF hsh
  have HD := hideF (HH.out.belowQ hXb)
  clear c0 c1 c2 c11 c12 c13 c14 cf hown hsh hb hX1
  obtain ⟨c0, c1, c2, c11, c12, c13, c14, cf, hdX⟩ := HD.out.cells
  obtain ⟨g0, g1, g2, gf⟩ := cells3f hXg
  clear hXb hXg hXr
  go_wp2_with fail
  rw [<- hX]
  clear hX
  go_quiet (fail)
  obtain ⟨Y, hY⟩ : ∃ Y, Y = X.drewN nq := ⟨_, rfl⟩
  have hYb : Below X.heap.size X Y := by rw [hY]; exact below_drewN (Below.refl _ _) _
  rw [<- hY]
  clear hY
  have HYb := hideF (bel_then HXb.out hYb)
  have hYg := (hYb.block _ (lt_of_block HXg.out)).trans HXg.out
  have hYr := (hYb.block _ (lt_of_block HXr.out)).trans HXr.out
  have HYO := hideF (ownsRow_below HXO.out hYb)
  have HYD := hideF (HD.out.belowQ hYb)
  have HYg := hideF hYg
  have HYr := hideF hYr
  clear c0 c1 c2 c11 c12 c13 c14 cf g0 g1 g2 gf hdX HXb HXg HXr HXO HD
  obtain ⟨c0, c1, c2, c11, c12, c13, c14, cf, hdY⟩ := HYD.out.cells
  clear hYb hYg hYr
  go_wp2_with fail
  obtain ⟨Z, hZ⟩ : ∃ Z, Z = (Y.setCell ⟨d, 12, none⟩ (.int .i64 ((D.arr : Int) + 1))).drew := ⟨_, rfl⟩
  have hdg : d ≠ w.heap.size := by omega
  have hdr : d ≠ w1.heap.size := by omega
  have HZD : Hid (DevIn Z d L S E (.slice aw D.wait.length cw) { D with arr := D.arr + 1 }) := by
    rw [hZ]
    have := (HYD.out.setArr (D.arr + 1)).drewN 1
    rw [show ((D.arr + 1 : Nat) : Int) = (D.arr : Int) + 1 by omega] at this
    exact this
  have hZr : Z.heap[w1.heap.size]? = Y.heap[w1.heap.size]? := by rw [hZ]; exact heap_setCell_other Y ⟨d, 12, none⟩ w1.heap.size _ (by simpa using fun e => hdr e.symm)
  have hZg : Z.heap[w.heap.size]? = Y.heap[w.heap.size]? := by rw [hZ]; exact heap_setCell_other Y ⟨d, 12, none⟩ w.heap.size _ (by simpa using fun e => hdg e.symm)
  have HZr := hideF (hZr.trans HYr.out)
  have HZg := hideF (hZg.trans HYg.out)
  have HZO : Hid (Z.ownsRow W.heap.size 3 1 (.slice av x.vals.length cv) x.vals.length (x.vals.flatMap encI)) := by
    rw [hZ]
    exact own_drew (own_same HYO.out (fun g hg => heap_setCell_other Y ⟨d, 12, none⟩ g _ (by have := (HYO.out.lt g hg).1; simp; omega)))
  have HZF : Hid (FtT D.base (devT d L S E) w Z) := by
    rw [hZ]
    exact ((FtT.of_below (devT d L S E) HYb.out).setCell HYD.out.dev (devT_d _ _ _ _) HYD.out.lo.1 _ _).drewN 1
  have HDO2 : Hid (Calls Tryz.prog 80 #[.agg #[.string s, .int .i64 (x.fn : Nat), .int .i64 (x.tab : Nat), .int .i64 (x.frm : Nat), .int .i64 (x.cnt : Nat), .int .i64 (x.into : Nat), .int .i64 (x.to : Nat), .int .i64 (x.many : Nat), .slice av x.vals.length cv, .int .u8 (k : Nat)], .pointer (some ⟨d, 3, none⟩)] ((Y.setCell ⟨d, 12, none⟩ (.int .i64 ((D.arr : Int) + 1))).drew) fun e w' => ∃ v, e = .returned v /\ (v = .tuple #[.string r, .bool false] /\ DevIn w' d L S E (.slice aw D.wait.length cw) { D with arr := D.arr + 1, ent := f } /\ ∃ j, j < 4 /\ Chg1 (E j) Z w')) := by
    rw [<- hZ]
    exact (HDO.out x _ k _ Z HSH.out HZD.out HZO.out).mono fun e w' h => ⟨_, h.1, rfl, h.2.1, h.2.2⟩
  obtain ⟨r0, r1, r2, r3, r4, r5, r6, r7, r8, r9⟩ := cells10 HYr.out
  have hsY := HYb.out.size
  have HZs : Hid (Y.heap.size = Z.heap.size) := by rw [hZ]; show _ = _; simp
  clear hZ hZr hZg
  go_region_law (first
    | (refine step_call rfl 80 #[.tmp 45, .tmp 48] #[146, 151] rfl #[.agg #[.string s, .int .i64 (x.fn : Nat), .int .i64 (x.tab : Nat), .int .i64 (x.frm : Nat), .int .i64 (x.cnt : Nat), .int .i64 (x.into : Nat), .int .i64 (x.to : Nat), .int .i64 (x.many : Nat), .slice av x.vals.length cv, .int .u8 (k : Nat)], .pointer (some ⟨d, 3, none⟩)] (by simp [Act.eval]) (enter81 _ _ _) _ HDO2.out ?_; rintro vv w4 ⟨rfl, hd4, j4, hj4, hc4⟩))
  all_goals
    obtain ⟨ce, hce⟩ := (HZD.out.ent j4 hj4).block
    have hEj := (HH.out.ent j4 hj4).lt
    have HF4 := hideF (HZF.out.trans (FtT.chg hc4 hce (devT_E _ _ _ _ _ hj4) (HZD.out.lo.2.2.2 j4 hj4)))
    have hg4 := (hc4.block w.heap.size (lt_of_block HZg.out) (by omega)).trans HZg.out
    have HD4 := hideF hd4
    have hs4 : w.heap.size < w4.heap.size := lt_of_block hg4
    have HG4 := hideF hg4
    clear c0 c1 c2 c11 c12 c13 c14 cf r0 r1 r2 r3 r4 r5 r6 r7 r8 r9 hce hc4 hd4 HYb HYD HYg HYr HYO HZD HZr HZg HZO HZF HDO2 HZs
    obtain ⟨c0, c1, c2, c11, c12, c13, c14, cf, hd4⟩ := HD4.out.cells
    obtain ⟨g0, g1, g2, gf⟩ := cells3f hg4
    clear hg4
    go_wp2_with fail
    go_quiet (fail)
    obtain ⟨V, hV⟩ : ∃ V, V = w4.drewN nq := ⟨_, rfl⟩
    have hVb : Below w4.heap.size w4 V := by rw [hV]; exact below_drewN (Below.refl _ _) _
    rw [<- hV]
    clear hV
    have HDV := hideF (HD4.out.belowQ hVb)
    have hgV := (hVb.block _ hs4).trans HG4.out
    have HFV := hideF (HF4.out.then_below hVb)
    have HGV := hideF hgV
    have hsV := lt_of_block hgV
    clear c0 c1 c2 c11 c12 c13 c14 cf g0 g1 g2 gf hVb HD4 HG4 HF4 hd4
    obtain ⟨c0, c1, c2, c11, c12, c13, c14, cf, hdV⟩ := HDV.out.cells
    obtain ⟨g0, g1, g2, gf⟩ := cells3f hgV
    clear hgV
    go_wp2_with fail
    obtain ⟨U, hU⟩ : ∃ U, U = V.setCell ⟨w.heap.size, 2, none⟩ (.string r) := ⟨_, rfl⟩
    have HDU : Hid (DevIn U d L S E (.slice aw D.wait.length cw) { D with arr := D.arr + 1, ent := f }) := by rw [hU]; exact HDV.out.keep ((FtT.refl (B := 0) (fun _ t => t == 94) V).setCell HGV.out rfl (Nat.zero_le _) _ _) (fun _ => rfl) (fun _ => rfl) (fun _ => rfl) (fun _ => rfl) (fun _ => rfl)
    have HFU : Hid (FtT D.base (devT d L S E) w U) := by rw [hU]; exact HFV.out.setNew _ _ (Nat.le_refl _) _
    have hgU : U.heap[w.heap.size]? = some (.cells #[.int .i64 (m : Nat), .int .i64 (D.unit : Nat), .string r] 94 (0, 0)) := by rw [hU]; exact heap_setCell_same V _ 2 _ 94 (.string r) HGV.out
    rw [<- hU]
    clear hU c0 c1 c2 c11 c12 c13 c14 cf g0 g1 g2 gf HDV HGV HFV hsV hdV
    obtain ⟨c0, c1, c2, c11, c12, c13, c14, cf, hdU⟩ := HDU.out.cells
    obtain ⟨g0, g1, g2, gf⟩ := cells3f hgU
    have hsU := lt_of_block hgU
    clear hgU
    have hiI : (i : Int) < (D.nl : Int) := by omega
    have HFR : Hid (Calls Tryz.prog 82 #[.pointer (some ⟨L, i * 3, none⟩), .agg #[.int .i64 (m : Nat), .int .i64 (D.unit : Nat), .string r]] U.drew fun e w' => ∃ v, e = .returned v /\ (v = .string (streamB m D.unit r) /\ Below U.drew.heap.size U.drew w')) := (framed_stream L i D.nl m D.unit r D.ln U.drew (HDU.out.drewN 1).lines hi hk hm hun hr).mono fun e w' h => ⟨_, h.1, rfl, h.2⟩
    go_region_law (first
      | (refine step_call rfl 82 #[.tmp 76, .tmp 77] #[116, 94] rfl #[.pointer (some ⟨L, i * 3, none⟩), .agg #[.int .i64 (m : Nat), .int .i64 (D.unit : Nat), .string r]] (by simp [Act.eval, Act.put]) (enter83 _ _ _) _ HFR.out ?_; rintro vv w5 ⟨rfl, hb5⟩; have hd5 := (HDU.out.drewN 1).belowQ hb5)
      | (refine step_call rfl 81 #[.tmp 69, .tmp 70, .tmp 78] #[49, 3, 9] rfl #[.pointer (some ⟨d, 0, none⟩), .int .i64 (i : Nat), .string (streamB m D.unit r)] (by simp [Act.eval]) (enter82 _ _ _ _) _ (dansw_step d L S i E _ _ (streamB m D.unit r) _ hd5 (by first | exact Nat.succ_pos _ | exact hu) hw1 HXX.out) ?_; rintro vv w6 ⟨rfl, v6, hd6, hf6⟩))
    all_goals
      have HF6 := hideF ((HFU.out.then_below (below_then_drew1 hb5)).trans (hf6.mono (wt_dev _ _ _ _)))
      have HD6 := hideF hd6
      obtain ⟨a6, k6, rfl, _⟩ := own_view hd6.wait
      clear c0 c1 c2 c11 c12 c13 c14 cf g0 g1 g2 gf hb5 hd6 hf6 hd5 HFR
      obtain ⟨c0, c1, c2, c11, c12, c13, c14, cf, hd6⟩ := HD6.out.cells
      simp only [List.length_append, List.length_singleton] at c14
      have q1 : (D.batch : Int) <= ((D.wait.length + 1 : Nat) : Int) := by omega
      have q3 : (D.batch : Int) <= (D.wait.length : Int) + 1 := by omega
      have hs6 := HF6.out.size
      go_wp2_with fail
      go_quiet (fail)
      obtain ⟨Z7, hZ7⟩ : ∃ Z7, Z7 = w6.drewN nq := ⟨_, rfl⟩
      have HDZ : Hid (DevIn Z7 d L S E _ _) := (by rw [hZ7]; exact HD6.out.drewN nq)
      have HFZ : Hid (FtT D.base (devT d L S E) w Z7) := (by rw [hZ7]; exact HF6.out.drewN nq)
      rw [<- hZ7]
      have hsZ := HFZ.out.size
      clear hZ7 c0 c1 c2 c11 c12 c13 c14 cf hd6 HD6 HF6 hs6
      go_wp2_with fail
      refine (HFL.out _ _ HDZ.out).mono ?_
      rintro e w7 ⟨v7, rfl, hown7, hD7, hF7⟩
      obtain ⟨a7, p7, rfl, hat7⟩ := own_view hown7
      obtain ⟨g7, rfl, hg7, hc7⟩ := hat7 0 hA0
      have hln : (A.flatMap encA).length = A.length * 4 := flat_len encA 4 (fun _ => rfl) A
      have HC7 : Hid (∀ j u, (A.flatMap encA)[j]? = some u -> w7.cell? ((⟨g7, 0, none⟩ : Addr).add j) = some u) := fun j u hj => by
        have hjl : j < (A.flatMap encA).length := (List.getElem?_eq_some_iff.1 hj).1
        have e : (⟨g7, 0, none⟩ : Addr).add j = ⟨g7, j, none⟩ := by by_cases h0 : j = 0 <;> simp [Addr.add, h0]
        rw [e, hc7 j (by omega), hj]
      have HLN := hideF hln
      have HD7 := hideF hD7
      have HF7 := hideF (HFZ.out.trans hF7)
      have hs7 := HF7.out.size
      clear hown7 hD7 hF7 hat7 hc7 hln HDZ HFZ
      go_wp2_with (at_builtin; refine wpList_append_own _ rfl (.tmp 101) (.tmp 103) 31 rfl w.heap.size 77 i0 _ 4 40 Tryz.underlying31 hi0 hz0 hz1 hz2 rfl (by decide) (.slice none 0 0) 0 [] rfl (World.ownsRow_nil _ _ _ _) ⟨g7, 0, none⟩ A.length p7 (A.flatMap encA) rfl HLN.out HC7.out (encA_one _) (by unfold maxLen; omega) (by omega) (by omega) ?_; intro v' w8z hown8 hgrow8 _; obtain ⟨a8, p8, rfl, _⟩ := own_view hown8)
      go_ret
      refine ⟨_, rfl, ?_, HD7.out.keep ((FtT.refl (B := 0) (fun _ t => t == 77) w7).grown_new hgrow8 (fun k hk => by simp [Value.ownBlock] at hk)) (fun _ => rfl) (fun _ => rfl) (fun _ => rfl) (fun _ => rfl) (fun _ => rfl), HF7.out.grown_new hgrow8 (fun k hk => by simp [Value.ownBlock] at hk)⟩
      rw [Nat.zero_add, List.nil_append] at hown8
      exact hown8
end Go.Proofs.YtcpldcojckhapaaGreat

set_option maxRecDepth 100000
namespace Go.Proofs.YtcpldcojckhapaaGreat
open Go.RowKit
set_option maxRecDepth 100000 in
set_option maxHeartbeats 2000000 in
theorem flush_gen (d L S lat' st' : Nat) (E : Nat -> Nat) (wv : Value) (D : Dev) (data : ByteArray) (R : List (Int × Int × ByteArray) -> List (Int × Int × ByteArray) -> Prop) (hR : ∀ h s, R h s -> h.length = s.length) (hP : Pops D.base d R) (s : List (Int × Int × ByteArray)) (w : World) (h : DevIn w d L S E wv D) (hu : 0 < D.uns) (hkp : ∀ w1 : World, DevIn w1 d L S E wv D -> Calls Tryz.prog 59 #[.pointer (some ⟨d, 3, none⟩)] w1 fun e w' => e = .returned (.string data) /\ Below w1.heap.size w1 w') (hdz : data.size <= 1000)
    (hsec : D.sec <= 64) (hfit : ∀ i, i < D.sec -> i * 62 <= data.size) (hlat : D.lat <= 1) (hst : D.stamp <= 3) (hl' : lat' = (D.lat + 1) % 2) (hs' : st' = D.stamp % 3 + 1) (hrs : R D.wait s) (hsl : s.length <= 1000) (hs0 : 0 < s.length) :
    Calls Tryz.prog 24 #[.pointer (some ⟨d, 0, none⟩)] w fun e w' => ∃ v, e = .returned v /\ w'.ownsRow w.heap.size 77 4 v (D.sec + 1 + s.length) ((saveA D.sec lat' st' data ++ s.map sendOf).flatMap encA) /\ DevIn w' d L S E (.slice none 0 0) { D with lat := lat', stamp := st', uns := 0, wait := [] } /\ FtT D.base (devT d L S E) w w' := by
  obtain ⟨i0, hi, hz0, hz1, hz2⟩ := info_parts Tryz.infoEA
  obtain ⟨c0, c1, c2, c11, c12, c13, c14, cf, hdl⟩ := h.cells
  have hu' : ((D.uns : Int) == 0) = false := by rw [beq_eq_false_iff_ne]; omega
  have HK : Hid (Calls Tryz.prog 59 #[.pointer (some ⟨d, 3, none⟩)] w.drew fun e w' => ∃ v, e = .returned v /\ (v = .string data /\ Below w.drew.heap.size w.drew w')) := (hkp w.drew (h.drewN 1)).mono fun e w' h => ⟨_, h.1, rfl, h.2⟩
  have HFIT := hideF hfit
  have HH := hideF h
  have HL := hideF hl'
  have HS := hideF hs'
  have HR := hideF hR
  have HP := hideF hP
  have HRS := hideF hrs
  clear h hkp hl' hs' hR hP hrs hfit
  go_enter Tryz.func24, Tryz.ntmps24
  go_wp2_with fail
  go_region_law (first
    | (refine step_call rfl 59 #[.tmp 15] #[104] rfl #[.pointer (some ⟨d, 3, none⟩)] (by simp [Act.eval, Act.put]) (enter60 _ _) _ HK.out ?_; rintro vv w1 ⟨rfl, hb1⟩; have hd1 := (HH.out.drewN 1).belowQ hb1; obtain ⟨k0, k1, k2, k11, k12, k13, k14, kf, hdk⟩ := hd1.cells)
    | (refine step_call rfl 58 #[.tmp 12, .tmp 16] #[106, 9] rfl #[.pointer (some ⟨S, 0, none⟩), .string data] (by simp [Act.eval]) (enter59 _ _ _) _ (save_any S D.sec D.lat D.stamp lat' st' data _ hd1.store hsec HFIT.out (by omega) hlat hst HL.out HS.out) ?_; rintro vv w2 ⟨hown2, hst2, hch2⟩))
  all_goals
    obtain ⟨a2, p2, rfl, _⟩ := own_view hown2
    have hbw1 := below_then_drew1 hb1
    have HD2 := hideF (hd1.saved hch2 hst2)
    have HF2 := hideF ((FtT.of_below (B := D.base) (devT d L S E) hbw1).trans (FtT.chg hch2 hd1.store (devT_S _ _ _ _) hd1.lo.2.2.1))
    have HO2 := hideF (own_base (B := w.heap.size) hown2 hbw1.size)
    clear c0 c1 c2 c11 c12 c13 c14 cf k0 k1 k2 k11 k12 k13 k14 kf hown2 hst2 hch2 hd1 hb1 hbw1 HK
    obtain ⟨c0, c1, c2, c11, c12, c13, c14, cf, hd2⟩ := HD2.out.cells
    go_wp2_with fail
    obtain ⟨Y, hY⟩ : ∃ Y, Y = w2.setCell ⟨d, 13, none⟩ (.int .i64 0) := ⟨_, rfl⟩
    have HDY : Hid (DevIn Y d L S E wv { D with lat := lat', stamp := st', uns := 0 }) := by rw [hY]; exact HD2.out.setUns 0
    have HFY : Hid (FtT D.base (devT d L S E) w Y) := by rw [hY]; exact HF2.out.setCell HD2.out.dev (devT_d _ _ _ _) HD2.out.lo.1 _ _
    have HOY : Hid (Y.ownsRow w.heap.size 77 4 (.slice a2 (D.sec + 1) p2) (D.sec + 1) ((saveA D.sec lat' st' data).flatMap encA)) := by
      rw [hY]; exact own_same HO2.out (fun g hg => by obtain ⟨cg, hcg⟩ := own_block HO2.out g hg; exact heap_setCell_other w2 ⟨d, 13, none⟩ g _ (ne_of_types hcg HD2.out.dev (by decide)))
    rw [<- hY]
    clear hY c0 c1 c2 c11 c12 c13 c14 cf HD2 HF2 HO2 hd2
    refine (sendAll_any d R HR.out HP.out _ wv D.wait s Y hsl HRS.out HDY.out.waitIn).mono ?_
    rintro e w3 ⟨v3, rfl, hown3, hw3, hf3⟩
    have HD3 := hideF (HDY.out.ofWait hw3 hf3)
    have HF3 := hideF (HFY.out.trans (hf3.mono (wt_dev _ _ _ _)))
    have HO3 := hideF (own_same (w' := w3) HOY.out (fun g hg => by obtain ⟨cg, hcg⟩ := own_block HOY.out g hg; exact hf3.keep g cg 77 hcg rfl))
    have hsY := HFY.out.size
    have hs3 := HF3.out.size
    obtain ⟨a3, p3, rfl, hat3⟩ := own_view hown3
    obtain ⟨g3, rfl, hg3, hc3⟩ := hat3 0 hs0
    have hln : ((s.map sendOf).flatMap encA).length = s.length * 4 := by rw [flat_len encA 4 (fun _ => rfl), List.length_map]
    have HC3 : Hid (∀ j u, ((s.map sendOf).flatMap encA)[j]? = some u -> w3.cell? ((⟨g3, 0, none⟩ : Addr).add j) = some u) := fun j u hj => by
      have hjl : j < ((s.map sendOf).flatMap encA).length := (List.getElem?_eq_some_iff.1 hj).1
      have e : (⟨g3, 0, none⟩ : Addr).add j = ⟨g3, j, none⟩ := by by_cases h0 : j = 0 <;> simp [Addr.add, h0]
      rw [e, hc3 j (by omega), hj]
    have HLN := hideF hln
    clear hown3 hw3 hf3 hat3 hc3 hln HDY HFY HOY
    go_wp2_with (at_builtin; refine wpList_append_own _ rfl (.tmp 21) (.tmp 25) 31 rfl w.heap.size 77 i0 _ 4 40 Tryz.underlying31 hi hz0 hz1 hz2 rfl (by decide) _ (D.sec + 1) _ rfl HO3.out ⟨g3, 0, none⟩ s.length p3 ((s.map sendOf).flatMap encA) rfl HLN.out HC3.out (encA_one _) (by unfold maxLen; omega) (by omega) (by omega) ?_; intro v' w4 hown4 hgrow4 _; obtain ⟨a4, p4, rfl, _⟩ := own_view hown4)
    go_ret
    refine ⟨_, rfl, ?_, ?_, HF3.out.grown_new hgrow4 (fun k hk => (HO3.out.lt k hk).1)⟩
    . rw [List.flatMap_append]; exact hown4
    . exact HD3.out.keep ((FtT.refl (B := 0) (fun _ t => t == 77) w3).grown hgrow4 (fun k hk => ⟨Nat.zero_le _, own_block HO3.out k hk⟩) (fun _ => rfl)) (fun _ => rfl) (fun _ => rfl) (fun _ => rfl) (fun _ => rfl) (fun _ => rfl)
def keptB (f : Nat -> Nat -> Int) (k0 k2 : Nat) : ByteArray := Pl.packB (fun j => (f 0 j).toNat) k0 ((k0 + 7) / 8) ++ wordsB ((List.range k2).map fun j => (f 2 j).toNat)
theorem keptB_size (f : Nat -> Nat -> Int) (k0 k2 : Nat) : (keptB f k0 k2).size = (k0 + 7) / 8 + 2 * k2 := by
  unfold keptB; rw [ByteArray.size_append, Pl.packB_size, wordsB_size]; simp
set_option maxRecDepth 100000 in
set_option maxHeartbeats 1000000 in
theorem kept_gen (d L S : Nat) (E : Nat -> Nat) (wv : Value) (D : Dev) (w : World) (h : DevIn w d L S E wv D) (hz : ∀ i, i < 4 -> D.sz i <= 60) (hk0 : D.kp 0 <= D.sz 0) (hk2 : D.kp 2 <= D.sz 2) (he : EntOk D.ent) :
    Calls Tryz.prog 59 #[.pointer (some ⟨d, 3, none⟩)] w fun e w' => e = .returned (.string (keptB D.ent (D.kp 0) (D.kp 2))) /\ Below w.heap.size w w' := by
  have z0 := hz 0 (by omega)
  have z2 := hz 2 (by omega)
  have c3 : w.cell? ⟨d, 3, none⟩ = _ := h.cellE (i := 0) (by omega)
  have c5 : w.cell? ⟨d, 5, none⟩ = _ := h.cellE (i := 2) (by omega)
  have c7 : w.cell? ⟨d, 7, none⟩ = _ := h.cellK (i := 0) (by omega)
  have c9 : w.cell? ⟨d, 9, none⟩ = _ := h.cellK (i := 2) (by omega)
  have hE0 := (h.ent 0 (by omega)).lt
  have hE2 := (h.ent 2 (by omega)).lt
  obtain ⟨k0, hk0e⟩ : ∃ k, k = D.kp 0 := ⟨_, rfl⟩
  obtain ⟨k2, hk2e⟩ : ∃ k, k = D.kp 2 := ⟨_, rfl⟩
  obtain ⟨s0, hs0e⟩ : ∃ k, k = D.sz 0 := ⟨_, rfl⟩
  obtain ⟨s2, hs2e⟩ : ∃ k, k = D.sz 2 := ⟨_, rfl⟩
  have HB0 : Hid (∀ i, (fun j => (D.ent 0 j).toNat) i < 2) := fun i => by have := he 0 i; have := this.2.2 (by omega); simp only; omega
  have HC0 : Hid (∀ j, j < k0 -> w.cell? ⟨E 0, 0 + j, none⟩ = some (.int .i64 ((fun j => (D.ent 0 j).toNat) j : Nat))) := fun j hj => by
    have := (h.ent 0 (by omega)).cell (i := j) (j := 0) (by omega) (by omega)
    rw [Nat.mul_one, Nat.add_zero] at this
    rw [Nat.zero_add, this]
    have := (he 0 j).1
    simp only; congr 2; omega
  have H16 : Hid (∀ y ∈ (List.range k2).map (fun j => (D.ent 2 j).toNat), y < 65536) := fun y hy => by
    obtain ⟨i, _, rfl⟩ := List.mem_map.1 hy
    have := he 2 i
    omega
  have HC2 : Hid (∀ j x, ((List.range k2).map (fun j => (D.ent 2 j).toNat))[j]? = some x -> w.cell? ⟨E 2, 0 + j, none⟩ = some (.int .i64 (x : Nat))) := fun j x hj => by
    have hjl : j < k2 := by have := (List.getElem?_eq_some_iff.1 hj).1; simpa using this
    rw [List.getElem?_map, List.getElem?_range hjl] at hj
    have hy : (D.ent 2 j).toNat = x := by simpa using hj
    have := (h.ent 2 (by omega)).cell (i := j) (j := 0) (by omega) (by omega)
    rw [Nat.mul_one, Nat.add_zero] at this
    rw [Nat.zero_add, this]
    have := (he 2 j).1
    congr 2; omega
  have hz2 : (wordsB ((List.range k2).map fun j => (D.ent 2 j).toNat)).size <= 200 := by rw [wordsB_size]; simp; omega
  have hz1 : (Pl.packB (fun j => (D.ent 0 j).toNat) k0 ((k0 + 7) / 8)).size <= 200 := by rw [Pl.packB_size]; omega
  rw [<- hk0e, <- hk2e]
  rw [<- hk0e] at c7 hk0
  rw [<- hk2e] at c9 hk2
  rw [<- hs0e] at c3 hk0 z0
  rw [<- hs2e] at c5 hk2 z2
  have hk0' : (k0 : Int) <= (s0 : Int) := by omega
  have hk2' : (k2 : Int) <= (s2 : Int) := by omega
  unfold keptB
  obtain ⟨P, hP⟩ : ∃ P, P = Pl.packB (fun j => (D.ent 0 j).toNat) k0 ((k0 + 7) / 8) := ⟨_, rfl⟩
  obtain ⟨Q, hQ⟩ : ∃ Q, Q = wordsB ((List.range k2).map fun j => (D.ent 2 j).toNat) := ⟨_, rfl⟩
  rw [<- hP, <- hQ]
  rw [<- hP] at hz1
  rw [<- hQ] at hz2
  have hlim : ¬ 9223372036854775807 < P.size + Q.size := by omega
  have HP := hideF hP
  have HQ := hideF hQ
  clear h hz he hk0e hk2e hs0e hs2e hP hQ
  go_enter Tryz.func59, Tryz.ntmps59
  go_wp2_with fail
  go_quiet (fail)
  go_wp2_with fail
  go_quiet (fail)
  go_wp2_with fail
  refine (bits_any (fun j => (D.ent 0 j).toNat) k0 s0 (E 0) 0 _ _ HB0.out (by omega) (by exact hE0) (fun _ => rfl) (by intro j hj; exact HC0.out j hj)).mono ?_
  rintro e w1 ⟨rfl, hb1⟩
  have HB1 := hideF (bel_then (below_drewN (Below.refl w.heap.size w) _) hb1)
  have hs1 := HB1.out.size
  have HC1 : Hid (∀ j x, ((List.range k2).map (fun j => (D.ent 2 j).toNat))[j]? = some x -> w1.cell? ⟨E 2, 0 + j, none⟩ = some (.int .i64 (x : Nat))) := fun j x hj => by rw [(bcell HB1.out).1 (E 2) _ hE2]; exact HC2.out j x hj
  rw [<- HP.out]
  clear hb1
  go_wp2_with fail
  refine (words_any _ k2 s2 (E 2) 0 _ _ (by simp) (by omega) H16.out (by omega) (fun _ => rfl) HC1.out).mono ?_
  rintro e w2 ⟨rfl, hb2⟩
  have HB2 := hideF (bel_then HB1.out hb2)
  rw [<- HQ.out]
  clear hb2
  go_wp2
  go_ret
  exact ⟨rfl, HB2.out⟩
end Go.Proofs.YtcpldcojckhapaaGreat
