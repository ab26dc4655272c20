/-
  
-/
import Derived.Test.YtcpldcojckhapaaGreatJ27
import Derived.Test.YtcpldcojckhapaaGreatJ22
import Derived.Test.YtcpldcojckhapaaGreatJ13
set_option maxRecDepth 100000
namespace Go.Proofs.YtcpldcojckhapaaGreat
open Go.RowKit
set_option maxRecDepth 100000 in
set_option maxHeartbeats 1000000 in
theorem down_none (p : Value) (n : Int) (w : World) (hn : n <= 1) :
    Calls Tryz.prog 119 #[.iface 160 p, .int .i64 0, .int .i64 n] w fun e w' => e = .returned (.bool false) /\ w' = w := by
  have h1 : decide ((1 : Int) ≥ n) = true := by simp; omega
  go_enter Tryz.func119, Tryz.ntmps119
  go_wp2_with fail
  go_loopw [7] (fun j wr => j = .int .i64 0 /\ wr = w) (fun _ _ => 0)
  case atStart => exact ⟨rfl, rfl⟩
  case round =>
    obtain ⟨rfl, rfl⟩ := hrel
    go_wp2_with fail
    go_ret
    exact ⟨rfl, rfl⟩
theorem WaitIn.swapped {B : Nat} {w w' : World} {d g c : Nat} {cur : Array Value} {l l' : List (Int × Int × ByteArray)} (h : WaitIn B w d cur (.slice (some ⟨g, 0, none⟩) l.length c) l) (hl : l.length = l'.length) (ho : w'.ownsRow B 163 3 (.slice (some ⟨g, 0, none⟩) l.length c) l.length (l'.flatMap encF)) (hc : Chg1 g w w') :
    WaitIn B w' d cur (.slice (some ⟨g, 0, none⟩) l.length c) l' /\ FtT B (wtT d) w w' := by
  obtain ⟨cg, hcg⟩ := own_block h.own g rfl
  refine ⟨⟨(hc.block d (lt_of_block h.dev) (ne_of_types h.dev hcg (by decide))).trans h.dev, h.size, h.at14, by rw [<- hl]; exact ho, h.lo⟩, ?_⟩
  exact ⟨hc.os, hc.tape, hc.output, hc.size, fun k cur' t hk ht => hc.block k (lt_of_block hk) (ne_of_types hk hcg (fun e => by rw [e] at ht; simp [wtT] at ht)), fun k hkB hks => hc.block k hks (by have := (h.own.lt g rfl).1; omega)⟩
set_option maxRecDepth 100000 in
set_option maxHeartbeats 1000000 in
theorem heapPop_one {B : Nat} (d : Nat) (cur : Array Value) (wv : Value) (x : Int × Int × ByteArray) (w : World) (h : WaitIn B w d cur wv [x]) :
    Calls Tryz.prog 89 #[.iface 160 (.pointer (some ⟨d, 14, none⟩))] w fun e w' => ∃ v', e = .returned (.iface 163 (.agg #[.int .i64 x.1, .int .i64 x.2.1, .string x.2.2])) /\ WaitIn B w' d (cur.setIfInBounds 14 v') v' [] /\ FtT B (wtT d) w w' := by
  obtain ⟨g, c, rfl, hg, _, _, _⟩ := own_ans h.own (i := 0) (x := x) rfl
  have c14 := h.cell
  have m1 := mthLen d _ c _ w c14
  have m2 := mthSwap d _ c _ w c14
  have HS := hideF (hswap_same B g c [x] x w h.own rfl)
  have HW := hideF h
  clear h
  go_enter Tryz.func89, Tryz.ntmps89
  go_wp2_with fail
  refine (hlen_any _ _ _ _).mono ?_
  rintro e w1 ⟨rfl, rfl⟩
  go_wp2_with fail
  refine HS.out.mono ?_
  rintro e w2 ⟨rfl, ho2, hc2⟩
  obtain ⟨hw2, hf2⟩ := HW.out.swapped rfl ho2 hc2
  have HW2 := hideF hw2
  have HF2 := hideF hf2
  clear ho2 hc2 hw2 hf2 m1 m2 c14
  go_wp2_with fail
  refine (down_none _ _ _ (by decide)).mono ?_
  rintro e w3 ⟨rfl, rfl⟩
  have m3 := mthPop (some ⟨d, 14, none⟩)
  go_wp2_with fail
  refine (hpopm_any d 0 cur _ [] x _ rfl (by omega) HW2.out).mono ?_
  rintro e w4 ⟨v', rfl, hw4, hf4⟩
  have HW4 := hideF hw4
  have HF4 := hideF (HF2.out.trans hf4)
  clear hw4 hf4
  go_wp2
  go_ret
  exact ⟨_, rfl, HW4.out, HF4.out⟩
end Go.Proofs.YtcpldcojckhapaaGreat

set_option maxRecDepth 100000
namespace Go.Proofs.YtcpldcojckhapaaGreat
open Go.RowKit
theorem FtT.grown_new {B : Nat} {T : Nat -> TypeId -> Bool} {a w w' : World} {row : Option Nat} (h : FtT B T a w) (hg : w.grownBy w' row) (hr : ∀ k, row = some k -> a.heap.size <= k) : FtT B T a w' :=
  ⟨hg.os.trans h.os, hg.tape.trans h.tape, hg.output.trans h.output, Nat.le_trans h.size hg.size, fun g cur t hk ht => (hg.block g (Nat.lt_of_lt_of_le (lt_of_block hk) h.size) (fun e => by have := hr g e.symm; have := lt_of_block hk; omega)).trans (h.keep g cur t hk ht), fun g hgB hgs => (hg.block g (Nat.lt_of_lt_of_le hgs h.size) (fun e => by have := hr g e.symm; omega)).trans (h.low g hgB hgs)⟩
def sendOf (x : Int × Int × ByteArray) : Int × Int × Int × ByteArray := (2, 0, x.2.1, x.2.2)
set_option maxRecDepth 100000 in
set_option maxHeartbeats 1000000 in
theorem hsend_any (x : Int × Int × ByteArray) (w : World) :
    Calls Tryz.prog 90 #[.agg #[.int .i64 x.1, .int .i64 x.2.1, .string x.2.2]] w fun e w' => e = .returned (.agg #[.int .u8 2, .int .i64 0, .int .i64 x.2.1, .string x.2.2]) /\ Below w.heap.size w w' := by
  go_enter Tryz.func90, Tryz.ntmps90
  go_wp2
  refine bodyPost_ret (v := .agg #[.int .u8 2, .int .i64 0, .int .i64 x.2.1, .string x.2.2]) (by simp [results, Tryz.results90, go_sem]) rfl ⟨rfl, ?_⟩
  exact bel_alloc (bel_alloc (Below.refl _ _) _) _
def sliceLen : Value -> Nat
  | .slice _ n _ => n
  | _ => 0
def Pops (B d : Nat) (R : List (Int × Int × ByteArray) -> List (Int × Int × ByteArray) -> Prop) : Prop :=
  ∀ (h s : List (Int × Int × ByteArray)) (x : Int × Int × ByteArray) (cur : Array Value) (wv : Value) (w : World), R h (x :: s) -> WaitIn B w d cur wv h ->
    Calls Tryz.prog 89 #[.iface 160 (.pointer (some ⟨d, 14, none⟩))] w fun e w' => ∃ v' h', e = .returned (.iface 163 (.agg #[.int .i64 x.1, .int .i64 x.2.1, .string x.2.2])) /\ R h' s /\ WaitIn B w' d (cur.setIfInBounds 14 v') v' h' /\ FtT B (wtT d) w w'
def Two (h s : List (Int × Int × ByteArray)) : Prop := h = s /\ s.length <= 2
set_option maxRecDepth 100000 in
set_option maxHeartbeats 1000000 in
theorem sendAll_any {B : Nat} (d : Nat) (R : List (Int × Int × ByteArray) -> List (Int × Int × ByteArray) -> Prop) (hR : ∀ h s, R h s -> h.length = s.length) (hP : Pops B d R) (cur : Array Value) (wv : Value) (h s : List (Int × Int × ByteArray)) (w : World) (hl : s.length <= 1000) (hh : R h s) (hw : WaitIn B w d cur wv h) :
    Calls Tryz.prog 60 #[.pointer (some ⟨d, 14, none⟩)] w fun e w' => ∃ v, e = .returned v /\ w'.ownsRow w.heap.size 77 4 v s.length ((s.map sendOf).flatMap encA) /\ WaitIn B w' d (cur.setIfInBounds 14 (.slice none 0 0)) (.slice none 0 0) [] /\ FtT B (wtT d) w w' := by
  obtain ⟨i0, hi, hz0, hz1, hz2⟩ := info_parts Tryz.infoEA
  have HP := hideF hP
  have HR := hideF hR
  have HH := hideF hh
  have HW := hideF hw
  clear hP hR hh hw
  go_enter Tryz.func60, Tryz.ntmps60
  go_wp2_with fail
  go_loopw [3] (fun v wr => ∃ (p r hr : List (Int × Int × ByteArray)) (wv' : Value) (cur' : Array Value), s = p ++ r /\ R hr r /\ wr.ownsRow w.heap.size 77 4 v p.length ((p.map sendOf).flatMap encA) /\ WaitIn B wr d cur' wv' hr /\ cur'.setIfInBounds 14 (.slice none 0 0) = cur.setIfInBounds 14 (.slice none 0 0) /\ FtT B (wtT d) w wr) (fun v _ => s.length - sliceLen v)
  case atStart => exact ⟨[], s, h, wv, cur, rfl, HH.out, World.ownsRow_nil _ _ _ _, HW.out, rfl, FtT.refl _ _⟩
  case round =>
    obtain ⟨p, r, hr, wv', cur', hs, hrr, hown, hw, hcur, hf⟩ := hrel
    obtain ⟨a1, k1, rfl, _⟩ := own_view hw.own
    obtain ⟨a3, k3, rfl, _⟩ := own_view hown
    have hlr := HR.out hr r hrr
    have c14 := hw.cell
    have f14 := hw.fz
    have HO := hideF hown
    have HWR := hideF hw
    have HCU := hideF hcur
    have HF := hideF hf
    have HRR := hideF hrr
    have HSE := hideF hs
    have hsz := hf.size
    have hpl : p.length + r.length = s.length := by rw [hs, List.length_append]
    clear hown hw hcur hf hrr hs
    cases r with
    | nil =>
      have h0 : hr.length = 0 := hlr
      have hr0 : hr = [] := List.eq_nil_of_length_eq_zero h0
      subst hr0
      have h0' : decide ((0 : Int) < ((([] : List (Int × Int × ByteArray)).length : Nat) : Int)) = false := rfl
      go_wp2_with fail
      refine (hlen_any _ _ _ _).mono ?_
      rintro e w1 ⟨rfl, rfl⟩
      go_wp2_with fail
      go_ret
      have hsp : s = p := by have := HSE.out; rwa [List.append_nil] at this
      refine ⟨_, rfl, ?_, ?_, HF.out.setCell HWR.out.dev (wtT_d _) HWR.out.lo _ _⟩
      . rw [hsp]
        refine own_same HO.out (fun g hg => heap_setCell_other _ _ _ _ (by have := (HO.out.lt g hg).1; obtain ⟨cg, hcg⟩ := own_block HO.out g hg; exact ne_of_types hcg HWR.out.dev (by decide)))
      . have := WaitIn.set HWR.out.dev HWR.out.size HWR.out.lo (v := .slice none 0 0) (l' := []) (World.ownsRow_nil _ _ _ _)
        rw [HCU.out] at this
        exact this
    | cons x r =>
      have hlr' : hr.length = r.length + 1 := hlr
      have h0' : decide ((0 : Int) < (hr.length : Int)) = true := by simp; omega
      have hta := assertAns x
      go_wp2_with fail
      refine (hlen_any _ _ _ _).mono ?_
      rintro e w1 ⟨rfl, rfl⟩
      go_wp2_with fail
      refine (HP.out hr r x cur' _ _ HRR.out HWR.out).mono ?_
      rintro e w2 ⟨v2, h2, rfl, hr2, hw2, hf2⟩
      have HR2 := hideF hr2
      have HW2 := hideF hw2
      have HF2 := hideF (HF.out.trans hf2)
      have HO2 := hideF (own_same (w' := w2) HO.out (fun g hg => by obtain ⟨cg, hcg⟩ := own_block HO.out g hg; exact hf2.keep g cg 77 hcg rfl))
      have hsz2 := HF2.out.size
      clear hr2 hw2 hf2 HRR HWR HO c14 f14
      go_wp2_with fail
      refine (hsend_any x _).mono ?_
      rintro e w3 ⟨rfl, hb3⟩
      have HW3 := hideF (HW2.out.below hb3)
      have HF3 := hideF (HF2.out.then_below hb3)
      have HO3 := hideF (ownsRow_below HO2.out hb3)
      have hsz3 := HF3.out.size
      clear hb3 HW2 HF2 HO2
      go_wp2_with (at_builtin; refine wpList_append_own _ rfl (.tmp 9) (.tmp 15) 31 rfl w.heap.size 77 i0 _ 4 40 Tryz.underlying31 hi hz0 hz1 hz2 rfl (by decide) (.slice a3 p.length k3) p.length _ rfl (HO3.out.alloc _) ⟨w3.heap.size, 0, none⟩ 1 1 [.int .u8 2, .int .i64 0, .int .i64 x.2.1, .string x.2.2] rfl rfl (cell_four_new _ _ _ _ _ _) (by intro u hu; simp at hu; rcases hu with rfl | rfl | rfl | rfl <;> rfl) (by unfold maxLen; omega) (by omega) (by simp; omega) ?_; intro v' w4 hown4 hgrow4 _; obtain ⟨a4, k4, rfl, _⟩ := own_view hown4)
      go_roundw
      case rel =>
        have hg4 : Below w3.heap.size w3 (w3.alloc (.cells #[.int .u8 2, .int .i64 0, .int .i64 x.2.1, .string x.2.2] 77)) := bel_alloc (Below.refl _ _) _
        have hW4 := HW3.out.below hg4
        refine ⟨p ++ [x], r, h2, v2, _, by rw [HSE.out]; simp, HR2.out, ?_, ⟨?_, hW4.size, hW4.at14, own_same hW4.own (fun g hg => hgrow4.block g (hW4.own.lt g hg).2 ?_), hW4.lo⟩, ?_, ?_⟩
        . rw [List.map_append, List.flatMap_append, List.length_append]; exact hown4
        . rw [hgrow4.block d (lt_of_block hW4.dev) (fun e => by have := (HO3.out.lt d e.symm).1; obtain ⟨cg, hcg⟩ := own_block HO3.out d e.symm; exact ne_of_types hcg HW3.out.dev (by decide) rfl)]
          exact hW4.dev
        . intro e
          obtain ⟨cg, hcg⟩ := own_block HO3.out g e.symm
          obtain ⟨cg', hcg'⟩ := own_block HW3.out.own g hg
          exact ne_of_types hcg hcg' (by decide) rfl
        . rw [<- HCU.out]; simp
        . exact (HF3.out.alloc _).grown_new hgrow4 (fun k hk => (HO3.out.lt k hk).1)
      case measure => simp [sliceLen]; omega
end Go.Proofs.YtcpldcojckhapaaGreat

set_option maxRecDepth 100000
namespace Go.Proofs.YtcpldcojckhapaaGreat
open Go.RowKit
theorem splice_at {α : Type} (L : List α) (off : Nat) (cs : List α) (h : off + cs.length <= L.length) (k : Nat) : (splice L off cs)[k]? = if off <= k /\ k < off + cs.length then cs[k - off]? else L[k]? := by
  unfold splice
  by_cases h1 : k < off
  . rw [if_neg (by omega), List.getElem?_append_left (by rw [List.length_take]; omega), List.getElem?_take_of_lt h1]
  . rw [List.getElem?_append_right (by rw [List.length_take]; omega), List.length_take, Nat.min_eq_left (by omega)]
    by_cases h2 : k < off + cs.length
    . rw [if_pos ⟨by omega, h2⟩, List.getElem?_append_left (by omega)]
    . rw [if_neg (by omega), List.getElem?_append_right (by omega), List.getElem?_drop, show off + cs.length + (k - off - cs.length) = k by omega]
def entW (D : Dev) (x : Pl.Shp) (i k : Nat) : Int := if i = x.into /\ x.to <= k /\ k < x.to + x.vals.length then x.vals.getD (k - x.to) 0 else D.ent i k
theorem DevIn.belowQ {w w' : World} {d L S : Nat} {E : Nat -> Nat} {wv : Value} {D : Dev} (h : DevIn w d L S E wv D) (hb : Below w.heap.size w w') : DevIn w' d L S E wv D :=
  ⟨(hb.block d (lt_of_block h.dev)).trans h.dev, h.lines.below hb h.lines.lt, fun i hi => (h.ent i hi).below hb (h.ent i hi).lt, h.inj, (hb.block S (lt_of_block h.store)).trans h.store, ownsRow_below h.wait hb, h.lo⟩
theorem DevIn.drewN {w : World} {d L S : Nat} {E : Nat -> Nat} {wv : Value} {D : Dev} (h : DevIn w d L S E wv D) (k : Nat) : DevIn (w.drewN k) d L S E wv D := h.belowQ (below_drewN (Below.refl _ _) _)
theorem DevIn.put {w w' : World} {d L S : Nat} {E : Nat -> Nat} {wv : Value} {D : Dev} (h : DevIn w d L S E wv D) {j : Nat} (hj : j < 4) {f : Nat -> Nat -> Int} (hc : Chg1 (E j) w w') (hG : Grid w' (E j) 3 (D.sz j) 1 (fun k _ => .int .i64 (f j k))) (hf : ∀ i k, i ≠ j -> f i k = D.ent i k) :
    DevIn w' d L S E wv { D with ent := f } := by
  obtain ⟨ce, hce⟩ := (h.ent j hj).block
  obtain ⟨cl, hcl⟩ := h.lines.block
  refine ⟨(hc.block d (lt_of_block h.dev) (ne_of_types h.dev hce (by decide))).trans h.dev, h.lines.same (hc.block L (lt_of_block hcl) (ne_of_types hcl hce (by decide))), fun i hi => ?_, h.inj, (hc.block S (lt_of_block h.store) (ne_of_types h.store hce (by decide))).trans h.store, own_same h.wait (fun g hg => ?_), h.lo⟩
  . by_cases e : i = j
    . subst e; exact hG
    . refine ((h.ent i hi).same (hc.block (E i) (h.ent i hi).lt (h.inj i j hi hj e))).congr fun a b _ _ => ?_
      show Value.int .i64 (D.ent i a) = Value.int .i64 (f i a)
      rw [hf i a e]
  . obtain ⟨cg, hcg⟩ := own_block h.wait g hg
    exact hc.block g (lt_of_block hcg) (ne_of_types hcg hce (by decide))
theorem grid_splice {w : World} {g s : Nat} {cur : Array Value} {f : Nat -> Int} {off : Nat} {vs : List Int} (hcs : cur.size = s) (hcv : ∀ k, k < s -> cur[k]? = some (.int .i64 (f k))) (hfit : off + vs.length <= s) (hg : w.heap[g]? = some (.cells (splice cur.toList off (vs.flatMap encI)).toArray 3 (0, 0))) :
    Grid w g 3 s 1 (fun k _ => .int .i64 (if off <= k /\ k < off + vs.length then vs.getD (k - off) 0 else f k)) := by
  have hl : (vs.flatMap encI).length = vs.length := by rw [encI_len, Nat.mul_one]
  have hfit' : off + (vs.flatMap encI).length <= cur.toList.length := by rw [hl]; have := Array.length_toList (xs := cur); omega
  refine ⟨_, hg, by rw [List.size_toArray, length_splice _ _ _ hfit', Array.length_toList, hcs, Nat.mul_one], fun i j hi hj => ?_⟩
  obtain rfl : j = 0 := by omega
  rw [Nat.mul_one, Nat.add_zero, List.getElem?_toArray, splice_at _ _ _ hfit', hl]
  by_cases e : off <= i /\ i < off + vs.length
  . have hlt : i - off < vs.length := by omega
    rw [if_pos e, encI_at vs (i - off) vs[i - off] (List.getElem?_eq_getElem hlt)]
    show _ = some (Value.int .i64 (if off <= i /\ i < off + vs.length then vs.getD (i - off) 0 else f i))
    rw [if_pos e, List.getD_eq_getElem?_getD, List.getElem?_eq_getElem hlt]
    rfl
  . rw [if_neg e, Array.getElem?_toList, hcv i hi]
    show _ = some (Value.int .i64 (if off <= i /\ i < off + vs.length then vs.getD (i - off) 0 else f i))
    rw [if_neg e]
set_option maxRecDepth 100000 in
set_option maxHeartbeats 1000000 in
theorem write_copy (d L S B : Nat) (E : Nat -> Nat) (wv : Value) (D : Dev) (x : Pl.Shp) (v : Value) (b : Bool) (w : World) (h : DevIn w d L S E wv D) (hi : x.into < 4) (hf : x.fn ≠ 22) (hv : w.ownsRow B 3 1 v x.vals.length (x.vals.flatMap encI)) (hfit : x.to + x.vals.length <= D.sz x.into) (hm : x.many <= 100000)
    (hb : b = (decide (0 < x.many) && decide (x.to < D.kp x.into))) :
    Calls Tryz.prog 115 #[.pointer (some ⟨d, 3, none⟩), shV x v] w fun e w' => e = .returned (.bool b) /\ DevIn w' d L S E wv { D with ent := entW D x } /\ Chg1 (E x.into) w w' := by
  obtain ⟨a, c, rfl, _⟩ := own_view hv
  unfold shV
  have e2 := h.cellE hi
  have k2 := h.cellK hi
  have hdl := lt_of_block h.dev
  have hi' : (x.into : Int) < 4 := by omega
  have hf' : ((x.fn : Int) == 22) = false := by rw [beq_eq_false_iff_ne]; omega
  obtain ⟨cur, hcur, hcs, hcv⟩ := h.ent x.into hi
  rw [Nat.mul_one] at hcs
  have hEl := lt_of_block hcur
  have hcv' : ∀ k, k < D.sz x.into -> cur[k]? = some (.int .i64 (D.ent x.into k)) := fun k hk => by have := hcv k 0 hk (by omega); rwa [Nat.mul_one, Nat.add_zero] at this
  have HCU : Hid (w.heap[E x.into]? = some (.cells cur.toList.toArray 3 (0, 0))) := by show _ = _; rw [Array.toArray_toList]; exact hcur
  have HCV := hideF hcv'
  have HCS := hideF hcs
  have HV := hideF hv
  have HH := hideF h
  have HB := hideF hb
  have hto : (x.to : Int) <= (D.sz x.into : Int) := by omega
  clear h hv hcv hcv' hcur hcs hf hb
  go_enter Tryz.func115, Tryz.ntmps115
  go_wp2_with fail
  go_quiet (fail)
  go_wp2_with fail
  obtain ⟨X, hX⟩ : ∃ X, X = (w.alloc (.cells #[.int .i64 (x.fn : Nat), .int .i64 (x.tab : Nat), .int .i64 (x.frm : Nat), .int .i64 (x.cnt : Nat), .int .i64 (x.into : Nat), .int .i64 (x.to : Nat), .int .i64 (x.many : Nat), .slice a x.vals.length c] 144)).drewN nq := ⟨_, rfl⟩
  have hXb : Below w.heap.size w X := by rw [hX]; exact below_drewN (bel_alloc (Below.refl _ _) _) _
  have hXg : X.heap[w.heap.size]? = some (.cells #[.int .i64 (x.fn : Nat), .int .i64 (x.tab : Nat), .int .i64 (x.frm : Nat), .int .i64 (x.cnt : Nat), .int .i64 (x.into : Nat), .int .i64 (x.to : Nat), .int .i64 (x.many : Nat), .slice a x.vals.length c] 144 (0, 0)) := by rw [hX]; exact heap_alloc_new w _
  obtain ⟨y0, y1, y2, y3, y4, y5, y6, y7, y8⟩ := cells8 hXg
  have HXb := hideF hXb
  have HXg := hideF hXg
  have HXE := hideF ((hXb.block (E x.into) hEl).trans HCU.out)
  have HXV := hideF (ownsRow_below HV.out hXb)
  rw [<- hX]
  clear hX hXb hXg e2
  have hmin : (x.vals.flatMap encI).length = Nat.min x.vals.length (D.sz x.into - x.to) := by rw [encI_len, Nat.mul_one]; exact (Nat.min_eq_left (by omega)).symm
  have hcl := Array.length_toList (xs := cur)
  have HMIN := hideF hmin
  have HCL := hideF hcl
  clear hmin hcl
  go_region_law (first
    | (refine step_copy_row rfl (.tmp 44) (.tmp 46) 28 28 rfl 3 Tryz.underlying28 Tryz.sizeInt _ _ _ _ _ _ rfl rfl (E x.into) x.to cur.toList 3 HXE.out (x.vals.flatMap encI) HMIN.out (fun hp => ⟨if_neg (by rw [encI_len, Nat.mul_one] at hp; omega), own_src (own_same (w' := X.drew) HXV.out (fun _ _ => rfl)) (by rw [encI_len, Nat.mul_one] at hp; exact hp)⟩) (by rw [encI_len, Nat.mul_one, HCL.out, HCS.out]; exact hfit) (encI_one _) ?_; intro w3 hg3 ho3))
  all_goals
    have hdE : d ≠ E x.into := ne_of_types HH.out.dev (show w.heap[E x.into]? = _ from HCU.out) (by decide)
    have hd3 := (ho3.block d hdE).trans ((HXb.out.block d hdl).trans HH.out.dev)
    have hg3' := (ho3.block w.heap.size (by omega)).trans HXg.out
    have k3 : w3.cell? ⟨d, 7 + x.into, none⟩ = some (.int .i64 (D.kp x.into : Nat)) := by
      rw [cell_of_row _ _ _ _ _ _ hd3, <- cell_of_row _ _ _ _ _ _ HH.out.dev]; exact k2
    obtain ⟨z0, z1, z2, z3, z4, z5, z6, z7, z8⟩ := cells8 hg3'
    have HC3 : Hid (Chg1 (E x.into) w w3) := ⟨ho3.os.trans HXb.out.os, ho3.tape.trans HXb.out.tape, ho3.output.trans HXb.out.output, Nat.le_trans HXb.out.size (Nat.le_of_eq ho3.size.symm), fun k hk hne => (ho3.block k hne).trans (HXb.out.block k hk)⟩
    have HG3 := hideF (grid_splice HCS.out HCV.out hfit hg3.out)
    have HD3 : Hid (DevIn w3 d L S E wv { D with ent := entW D x }) := HH.out.put hi HC3.out (HG3.out.congr fun i _ _ _ => by simp [entW]) (fun i k hne => by simp [entW, hne])
    clear hd3 hg3' ho3 hg3 y0 y1 y2 y3 y4 y5 y6 y7 y8 k2 HG3 HXE HXV
    by_cases m0 : 0 < x.many
    . have m0' : (0 : Int) < (x.many : Int) := by omega
      by_cases m1 : x.to < D.kp x.into
      . have m1' : (x.to : Int) < (D.kp x.into : Int) := by omega
        go_wp2_with fail
        all_goals
          go_quiet (fail)
          go_wp2
          go_ret
          refine ⟨?_, HD3.out.drewN _, HC3.out.drewN _⟩
          rw [HB.out]; simp [m0, m1]
      . have m1' : decide ((x.to : Int) < (D.kp x.into : Int)) = false := by simp; omega
        go_wp2_with fail
        all_goals
          go_quiet (fail)
          go_wp2
          go_ret
          refine ⟨?_, HD3.out.drewN _, HC3.out.drewN _⟩
          rw [HB.out]; simp [m0, m1]
    . have m0' : decide ((0 : Int) < (x.many : Int)) = false := by simp; omega
      go_wp2_with fail
      all_goals
        go_quiet (fail)
        go_wp2
        go_ret
        refine ⟨?_, HD3.out.drewN _, HC3.out.drewN _⟩
        rw [HB.out]; simp [m0]
end Go.Proofs.YtcpldcojckhapaaGreat

set_option maxRecDepth 100000
namespace Go.Proofs.YtcpldcojckhapaaGreat
open Go.RowKit
def bytesOf (l : List Int) : ByteArray := ⟨(l.map fun n => UInt8.ofNat n.toNat).toArray⟩
theorem push_foldQ (l : List Int) : ∀ acc : ByteArray, (l.foldl (fun r n => r.push (UInt8.ofNat n.toNat)) acc).data.toList = acc.data.toList ++ l.map fun n => UInt8.ofNat n.toNat := by
  induction l with
  | nil => intro acc; simp
  | cons n l ih => intro acc; rw [List.foldl_cons, ih, List.map_cons]; simp
theorem conv_row (W : World) (g n c : Nat) (l : List Int) (hl : l.length = n) (hc : ∀ j x, l[j]? = some x -> W.cell? ⟨g, j, none⟩ = some (.int .u8 x)) : (convert 114 9 (.slice (some ⟨g, 0, none⟩) n c)).run Tryz.prog W = .ok (.string (bytesOf l)) W := by
  subst hl
  rw [run_convert_bytes_string _ 114 9 5 _ _ c Tryz.underlying114 Tryz.underlying5 Tryz.underlying9, run_bytesToString _ _ _ c l]
  . congr 2
    apply ByteArray.ext
    apply Array.toList_inj.1
    rw [push_foldQ]
    simp [bytesOf]
  . have h := run_loadCells_list (P := Tryz.prog) W ⟨g, 0, none⟩ (l.map fun x => Value.int .u8 x) (fun j v hj => by
      have e : ((⟨g, 0, none⟩ : Addr).add j) = ⟨g, j, none⟩ := by by_cases h0 : j = 0 <;> simp [Addr.add, h0]
      rw [e]
      rw [List.getElem?_map] at hj
      obtain ⟨x, hx, rfl⟩ := Option.map_eq_some_iff.1 hj
      exact hc j x hx)
    rw [List.length_map] at h
    exact h
theorem infoU8Q : (Tryz.prog.info? 5).map (fun i => (i.zero, i.size, i.bytes)) = some (some (.int .u8 0), 1, 1) := by kernel_rfl
theorem made_bytesQ (n : Nat) (h : n <= 100000) (W : World) : (Instr.makeSlice 114 (.int .i64 (n : Int)) (.int .i64 (n : Int))).run Tryz.prog W = .ok (.slice (some ⟨W.heap.size, 0, none⟩) n n) (W.alloc (.cells (madeCells #[.int .u8 0] n) 5)) :=
  run_make_row' 114 5 _ 1 Tryz.underlying114 infoU8Q rfl .i64 .i64 n (by omega) (by omega) W
theorem madeBytes_at (n j : Nat) (h : j < n) : (madeCells #[.int .u8 0] n)[j]? = some (.int .u8 0) := by
  rw [<- Array.getElem?_toList, toList_madeCells_one, List.getElem?_replicate, if_pos h]
def blank64 : ByteArray := bytesOf (List.replicate 64 0)
theorem blank64_list : blank64.data.toList = List.replicate 64 (0 : UInt8) := by decide +kernel
theorem blank64_size : blank64.size = 64 := by decide +kernel
end Go.Proofs.YtcpldcojckhapaaGreat

set_option maxRecDepth 100000
namespace Go.Proofs.YtcpldcojckhapaaGreat
open Go.RowKit
def wordsI (l : List Nat) : List Int := l.flatMap fun n => [((n / 256 : Nat) : Int), ((n % 256 : Nat) : Int)]
def wordsB (l : List Nat) : ByteArray := bytesOf (wordsI l)
def byteV (x : Int) : Value := .int .u8 x
theorem wordsI_len (l : List Nat) : (wordsI l).length = 2 * l.length := by
  induction l with
  | nil => rfl
  | cons x l ih => unfold wordsI at ih ⊢; rw [List.flatMap_cons, List.length_append, ih]; simp; omega
theorem conv_own (W : World) (B n : Nat) (v : Value) (l : List Int) (hl : l.length = n) (h : W.ownsRow B 5 1 v n (l.map byteV)) : (convert 114 9 v).run Tryz.prog W = .ok (.string (bytesOf l)) W := by
  rcases h.2 with ⟨rfl, h0⟩ | ⟨g, cap, cur, rfl, hb, hg, h1, h2, h3, h4⟩
  . obtain rfl : l = [] := List.eq_nil_of_length_eq_zero (by omega)
    kernel_rfl
  . refine conv_row W g n cap l hl fun j x hj => ?_
    rw [cell_of_row W g j cur 5 (0, 0) hg, <- Array.getElem?_toList]
    have hj' : j < n := by rw [<- hl]; exact (List.getElem?_eq_some_iff.1 hj).1
    have e : (cur.toList.take (n * 1))[j]? = cur.toList[j]? := List.getElem?_take_of_lt (by omega)
    rw [<- e, h4, List.getElem?_map, hj]
    rfl
theorem cell_two_new (w : World) (a b : Value) (t : TypeId) : ∀ j u, [a, b][j]? = some u -> (w.alloc (.cells #[a, b] t)).cell? ((⟨w.heap.size, 0, none⟩ : Addr).add j) = some u := by
  intro j u hj
  match j, hj with
  | 0, hj => simp at hj; subst hj; simp [Addr.add]
  | 1, hj => simp at hj; subst hj; simp [Addr.add]
set_option maxRecDepth 100000 in
set_option maxHeartbeats 1000000 in
theorem words_any (l : List Nat) (n c g off : Nat) (a : Option Addr) (w : World) (hl : l.length = n) (hn : n <= 10000) (h16 : ∀ x ∈ l, x < 65536) (hg : g < w.heap.size)
    (ha : 0 < n -> a = some ⟨g, off, none⟩) (hc : ∀ j x, l[j]? = some x -> w.cell? ⟨g, off + j, none⟩ = some (.int .i64 (x : Nat))) :
    Calls Tryz.prog 87 #[.slice a n c] w fun e w' => e = .returned (.string (wordsB l)) /\ Below w.heap.size w w' := by
  obtain ⟨i0, hi, hz0, hz1, hz2⟩ := info_parts infoU8Q
  have hmk : ∀ W : World, (Instr.makeSlice 114 (.int .i64 0) (.int .i64 (2 * (n : Int)))).run Tryz.prog W = .ok (.slice (some ⟨W.heap.size, 0, none⟩) 0 (2 * n)) (W.alloc (.cells (madeCells #[.int .u8 0] (2 * n)) 5)) := fun W => by
    have h := run_make (P := Tryz.prog) W 114 5 i0 (.int .u8 0) Tryz.underlying114 hi hz0 .i64 .i64 0 (2 * (n : Int)) (by omega) (by omega) (by rw [hz2]; omega) (by omega)
    rw [hz1] at h
    have e : (2 * (n : Int)).toNat = 2 * n := by omega
    simpa [Value.cells, e] using h
  obtain ⟨M, hM⟩ : ∃ M, M = madeCells #[Value.int .u8 0] (2 * n) := ⟨_, rfl⟩
  have hMs : M.size = 2 * n * 1 := by rw [hM, size_madeCells]; omega
  rw [<- hM] at hmk
  have w2 : IntKind.i64.wrap (2 * (n : Int)) = 2 * (n : Int) := by rw [IntKind.wrap_i64]; omega
  have HC := hideF hc
  have H16 := hideF h16
  have HA := hideF ha
  have HL := hideF hl
  have HM := hideF hMs
  clear hc h16 ha hl hM hMs
  go_enter Tryz.func87, Tryz.ntmps87
  go_wp2_with fail
  go_loopw [12, 3] (fun i s wr => ∃ q : Nat, q <= n /\ i = .int .i64 (q : Nat) /\ wr.ownsRow w.heap.size 5 1 s (2 * q) ((wordsI (l.take q)).map byteV) /\ Below w.heap.size w wr) (fun i _ _ => n - (intOf i).toNat)
  case atStart => exact ⟨0, by omega, rfl, World.ownsRow_made w M (2 * n) (Nat.le_refl _) (by unfold maxLen; omega) HM.out, bel_alloc (Below.refl _ _) _⟩
  case round =>
    obtain ⟨q, hq, rfl, hown, hb⟩ := hrel
    have hsb := hb.size
    by_cases hlt : q < n
    . obtain ⟨x, hx⟩ : ∃ x, l[q]? = some x := ⟨_, List.getElem?_eq_getElem (by rw [HL.out]; exact hlt)⟩
      have hx16 : x < 65536 := H16.out x (List.mem_of_getElem? hx)
      have hkc : wr.cell? ⟨g, off + q, none⟩ = some (.int .i64 (x : Nat)) := by rw [(bcell hb).1 g _ hg]; exact HC.out q x hx
      have hae := HA.out (by omega)
      have HT := hideF (take_succ_at l q x hx)
      subst hae
      have HO := hideF hown
      have HB := hideF hb
      have e1 : IntKind.u8.wrap ((x : Int) / 256) = ((x / 256 : Nat) : Int) := by rw [IntKind.wrap_u8]; omega
      have e2 : IntKind.u8.wrap (x : Int) = ((x % 256 : Nat) : Int) := by rw [IntKind.wrap_u8]; omega
      clear hown hb hx
      go_wp2_with (at_builtin; refine wpList_append_own _ rfl (.tmp 16) (.tmp 22) 114 rfl w.heap.size 5 i0 (.int .u8 0) 1 1 Tryz.underlying114 hi hz0 hz1 hz2 rfl (by decide) u3 (2 * q) _ rfl (HO.out.alloc _) ⟨wr.heap.size, 0, none⟩ 2 2 [.int .u8 (x / 256 : Nat), .int .u8 (x % 256 : Nat)] rfl rfl (cell_two_new _ _ _ _) (by intro u hu; simp at hu; rcases hu with rfl | rfl <;> rfl) (by unfold maxLen; omega) (by omega) (by simp; omega) ?_; intro v' w3 hown3 hgrow3 _)
      go_roundw
      case rel =>
        refine ⟨q + 1, by omega, by go_num, ?_, ?_⟩
        . rw [HT.out]
          unfold wordsI
          rw [List.flatMap_append, List.map_append, show 2 * (q + 1) = 2 * q + 2 by omega]
          exact hown3
        . exact (HB.out.alloc HB.out.size _).grown hgrow3 (by have := HB.out.size; simp; omega) (fun k hk => (HO.out.lt k hk).1)
      case measure => simp [intOf]; omega
    . obtain rfl : q = n := by omega
      rw [List.take_of_length_le (by rw [HL.out]; exact Nat.le_refl _)] at hown
      have hcv := conv_own wr w.heap.size (2 * q) u3 (wordsI l) (by rw [wordsI_len, HL.out]) hown
      go_wp2
      go_ret
      exact ⟨rfl, hb⟩
end Go.Proofs.YtcpldcojckhapaaGreat

set_option maxRecDepth 100000
namespace Go.Proofs.YtcpldcojckhapaaGreat
open Go.RowKit
end Go.Proofs.YtcpldcojckhapaaGreat

set_option maxRecDepth 100000
namespace Go.Proofs.YtcpldcojckhapaaGreat
open Go.RowKit
set_option maxRecDepth 100000 in
set_option maxHeartbeats 1000000 in
theorem holdsBits_no (t : Nat) (w : World) (h : 2 <= t) : Calls Tryz.prog 100 #[.int .i64 (t : Nat)] w fun e w' => e = .returned (.bool false) /\ w' = w := by
  have h0 : ((t : Int) == 0) = false := by rw [beq_eq_false_iff_ne]; omega
  have h1 : ((t : Int) == 1) = false := by rw [beq_eq_false_iff_ne]; omega
  go_enter Tryz.func100, Tryz.ntmps100
  go_wp2
  go_ret
  exact ⟨rfl, rfl⟩
set_option maxRecDepth 100000 in
set_option maxHeartbeats 1000000 in
theorem read_words (d L S : Nat) (E : Nat -> Nat) (wv : Value) (D : Dev) (x : Pl.Shp) (n : Nat) (a : Option Addr) (c : Nat) (l : List Nat) (w : World) (h : DevIn w d L S E wv D) (ht : x.tab < 4) (ht2 : 2 <= x.tab) (hfit : x.frm + x.cnt <= D.sz x.tab) (hsz : D.sz x.tab <= 1000) (hl : l.length = x.cnt) (h16 : ∀ y ∈ l, y < 65536) (hv : ∀ j y, l[j]? = some y -> D.ent x.tab (x.frm + j) = (y : Nat)) :
    Calls Tryz.prog 145 #[.pointer (some ⟨d, 3, none⟩), shV x (.slice a n c)] w fun e w' => e = .returned (.string (wordsB l)) /\ Below w.heap.size w w' := by
  unfold shV
  have e1 := h.cellE ht
  have hdl := lt_of_block h.dev
  have hE := (h.ent x.tab ht).lt
  have ht' : (x.tab : Int) < 4 := by omega
  have hcell : ∀ j y, l[j]? = some y -> w.cell? ⟨E x.tab, x.frm + j, none⟩ = some (.int .i64 (y : Nat)) := fun j y hj => by
    have hjl : j < l.length := (List.getElem?_eq_some_iff.1 hj).1
    have := (h.ent x.tab ht).cell (i := x.frm + j) (j := 0) (by omega) (by omega)
    rw [Nat.mul_one, Nat.add_zero] at this
    rw [this, hv j y hj]
  have HC := hideF hcell
  have H16 := hideF h16
  have HL := hideF hl
  have b1 : (x.frm : Int) + (x.cnt : Int) <= (D.sz x.tab : Int) := by omega
  have b2 : (x.frm : Int) <= (x.frm : Int) + (x.cnt : Int) := by omega
  have b3 : x.frm + x.cnt <= 1000 := by omega
  clear h hcell h16 hl hv
  go_enter Tryz.func145, Tryz.ntmps145
  go_wp2_with fail
  go_quiet (fail)
  go_wp2_with fail
  all_goals
    refine (holdsBits_no x.tab _ ht2).mono ?_
    rintro e w1 ⟨rfl, rfl⟩
    go_wp2_with fail
  all_goals
    have hXb : Below w.heap.size w ((w.alloc (.cells #[.int .i64 (x.fn : Nat), .int .i64 (x.tab : Nat), .int .i64 (x.frm : Nat), .int .i64 (x.cnt : Nat), .int .i64 (x.into : Nat), .int .i64 (x.to : Nat), .int .i64 (x.many : Nat), .slice a n c] 144)).drewN nq) := below_drewN (bel_alloc (Below.refl _ _) _) _
    have HXb := hideF hXb
    refine (words_any l x.cnt _ (E x.tab) x.frm _ _ HL.out (by omega) H16.out (by simp; omega) (fun hp => by first | rfl | (exfalso; omega)) (fun j y hj => by rw [(bcell HXb.out).1 (E x.tab) _ hE]; exact HC.out j y hj)).mono ?_
    rintro e w2 ⟨rfl, hb2⟩
    have HB2 := hideF (bel_then HXb.out hb2)
    clear hXb hb2
    go_wp2
    go_ret
    exact ⟨rfl, HB2.out⟩
end Go.Proofs.YtcpldcojckhapaaGreat

set_option maxRecDepth 100000
namespace Go.Proofs.YtcpldcojckhapaaGreat
open Go.RowKit
theorem cells10 {W : World} {g : Nat} {t : TypeId} {a0 a1 a2 a3 a4 a5 a6 a7 a8 a9 : Value} (h : W.heap[g]? = some (.cells #[a0, a1, a2, a3, a4, a5, a6, a7, a8, a9] t (0, 0))) : W.cell? ⟨g, 0, none⟩ = some a0 /\ W.cell? ⟨g, 1, none⟩ = some a1 /\ W.cell? ⟨g, 2, none⟩ = some a2 /\ W.cell? ⟨g, 3, none⟩ = some a3 /\ W.cell? ⟨g, 4, none⟩ = some a4 /\ W.cell? ⟨g, 5, none⟩ = some a5 /\ W.cell? ⟨g, 6, none⟩ = some a6 /\ W.cell? ⟨g, 7, none⟩ = some a7 /\ W.cell? ⟨g, 8, none⟩ = some a8 /\ W.cell? ⟨g, 9, none⟩ = some a9 :=
  ⟨by rw [cell_of_row _ _ _ _ _ _ h]; rfl, by rw [cell_of_row _ _ _ _ _ _ h]; rfl, by rw [cell_of_row _ _ _ _ _ _ h]; rfl, by rw [cell_of_row _ _ _ _ _ _ h]; rfl, by rw [cell_of_row _ _ _ _ _ _ h]; rfl, by rw [cell_of_row _ _ _ _ _ _ h]; rfl, by rw [cell_of_row _ _ _ _ _ _ h]; rfl, by rw [cell_of_row _ _ _ _ _ _ h]; rfl, by rw [cell_of_row _ _ _ _ _ _ h]; rfl, by rw [cell_of_row _ _ _ _ _ _ h]; rfl⟩
theorem wordsB_size (l : List Nat) : (wordsB l).size = 2 * l.length := by
  have e : (wordsB l).size = (wordsI l).length := by simp [wordsB, bytesOf, ByteArray.size]
  rw [e, wordsI_len]
end Go.Proofs.YtcpldcojckhapaaGreat

set_option maxRecDepth 100000
namespace Go.Proofs.YtcpldcojckhapaaGreat
open Go.RowKit
set_option maxRecDepth 100000 in
set_option maxHeartbeats 1000000 in
theorem streamFrame_any (s : ByteArray) (w : World) (h1 : 7 <= s.size) (hs : s.size <= 4194304) :
    Calls Tryz.prog 110 #[.string s] w fun e w' => e = .returned (.agg #[.int .i64 (256 * Pl.byt s 0 + Pl.byt s 1 : Nat), .int .i64 (Pl.byt s 6 : Nat), .string (s.extract 7 s.size)]) /\ Below w.heap.size w w' := by
  have hp0 : 0 < s.size := by omega
  have hp1 : 1 < s.size := by omega
  have gb := Pl.get_byt s
  have hb0 := Pl.byt_lt s 0
  have hb1 := Pl.byt_lt s 1
  have e1 := Pl.byt_extract s 6 s.size 0 (Nat.le_refl _) (by omega)
  have e2 := Pl.extract_extract s 6 s.size 1 (s.size - 6) (by omega)
  rw [show 6 + (s.size - 6) = s.size by omega] at e2
  go_enter Tryz.func110, Tryz.ntmps110
  go_wp2_with fail
  refine (unitAndBody_any _ _ (by simp; omega) (by simp; omega)).mono ?_
  rintro e w1 ⟨rfl, hb⟩
  obtain ⟨hc, hf⟩ := bcell hb
  have hz : w.heap.size < w1.heap.size := by have := hb.size; simp at this; omega
  go_wp2
  go_region
  all_goals go_wp2
  all_goals
    have eo : bits BinOp.or IntKind.i64 ((Pl.byt s 0 : Int) * 256) (Pl.byt s 1) = (256 * Pl.byt s 0 + Pl.byt s 1 : Nat) := Pl.i64_word _ _ hb0 hb1
    refine bodyPost_ret (v := .agg #[.int .i64 (256 * Pl.byt s 0 + Pl.byt s 1 : Nat), .int .i64 (Pl.byt s 6 : Nat), .string (s.extract 7 s.size)]) (by simp [results, Tryz.results110, go_sem, hc, hz, eo]) rfl ⟨rfl, ?_⟩
    exact (((((((Below.refl _ _).alloc (Nat.le_refl _) _).trans (hb.mono (by simp))).setCell (Nat.le_refl _) _).setCell (Nat.le_refl _) _).setCell (Nat.le_refl _) _).alloc (by simp; omega) _).drew
set_option maxRecDepth 100000 in
set_option maxHeartbeats 1000000 in
theorem breaks_any (s : ByteArray) (w : World) (hs : s.size <= 4194304) :
    Calls Tryz.prog 111 #[.string s] w fun e w' => e = .returned (.bool (Pl.brk s)) /\ w' = w := by
  have gb := Pl.get_byt s
  go_enter Tryz.func111, Tryz.ntmps111
  go_wp2
  go_loop [3] (fun i => ∃ k : Nat, 2 <= k /\ k <= 5 /\ i = .int .i64 k /\ Hid ((2 < k -> Pl.byt s 2 = 0) /\ (3 < k -> Pl.byt s 3 = 0) /\ (4 < k -> Pl.byt s 4 = 0))) (fun i => 5 - (intOf i).toNat)
  case atStart => exact ⟨2, by omega, by omega, rfl, by simp [Hid]⟩
  case round =>
    obtain ⟨k, hk2, hk5, rfl, hz⟩ := hrel
    by_cases h5 : k < 5
    . by_cases hlt : k < s.size
      . by_cases h0 : Pl.byt s k = 0
        . have t1 : ((Pl.byt s k : Int) != 0) = false := by simp; omega
          have H0 : Hid (Pl.byt s k = 0) := h0
          clear h0
          go_wp2
          go_round
          case rel => exact ⟨k + 1, by omega, by omega, by go_num, by
            have hz := hz.out; have h0 := H0.out
            refine ⟨fun h => ?_, fun h => ?_, fun h => ?_⟩
            . by_cases e : k = 2
              . subst e; exact h0
              . exact hz.1 (by omega)
            . by_cases e : k = 3
              . subst e; exact h0
              . exact hz.2.1 (by omega)
            . by_cases e : k = 4
              . subst e; exact h0
              . exact hz.2.2 (by omega)⟩
          case measure => simp [intOf]; omega
        . have t1 : ((Pl.byt s k : Int) != 0) = true := by simp; omega
          have HB : Hid (Pl.brk s = true) := Pl.brk_true s (by
            rcases (show k = 2 ∨ k = 3 ∨ k = 4 by omega) with e | e | e
            . subst e; exact .inl h0
            . subst e; exact .inr (.inl h0)
            . subst e; exact .inr (.inr (.inl h0)))
          clear h0
          go_wp2
          go_ret
          exact ⟨rbool HB.out.symm, rfl⟩
      . have HB : Hid (Pl.brk s = false) := Pl.brk_false s (Classical.byContradiction fun h => h (if e : 2 < k then hz.out.1 e else Pl.byt_end s 2 (by omega))) (if e : 3 < k then hz.out.2.1 e else Pl.byt_end s 3 (by omega)) (if e : 4 < k then hz.out.2.2 e else Pl.byt_end s 4 (by omega)) (fun h => by omega)
        have hl5 : ¬ 5 < s.size := by omega
        go_wp2
        go_ret
        exact ⟨rbool HB.out.symm, rfl⟩
    . have hz2 := hz.out.1 (by omega)
      have hz3 := hz.out.2.1 (by omega)
      have hz4 := hz.out.2.2 (by omega)
      by_cases hl5 : 5 < s.size
      . by_cases hlo : Pl.byt s 5 < 2
        . have HB : Hid (Pl.brk s = true) := Pl.brk_true s (.inr (.inr (.inr ⟨hl5, .inl hlo⟩)))
          clear hz2 hz3 hz4
          go_wp2
          go_ret
          exact ⟨rbool HB.out.symm, rfl⟩
        . by_cases hhi : 254 < Pl.byt s 5
          . have HB : Hid (Pl.brk s = true) := Pl.brk_true s (.inr (.inr (.inr ⟨hl5, .inr hhi⟩)))
            clear hz2 hz3 hz4
            go_wp2
            go_ret
            exact ⟨rbool (by rw [HB.out]; simp; omega), rfl⟩
          . have HB : Hid (Pl.brk s = false) := Pl.brk_false s hz2 hz3 hz4 (fun _ => by omega)
            clear hz2 hz3 hz4
            go_wp2
            go_ret
            exact ⟨rbool (by rw [HB.out]; simp; omega), rfl⟩
      . have HB : Hid (Pl.brk s = false) := Pl.brk_false s hz2 hz3 hz4 (fun _ => by omega)
        clear hz2 hz3 hz4
        go_wp2
        go_ret
        exact ⟨rbool HB.out.symm, rfl⟩
set_option maxRecDepth 100000 in
set_option maxHeartbeats 1000000 in
theorem wholeSize_any (s : ByteArray) (w : World) (hs : s.size <= 4194304) :
    Calls Tryz.prog 109 #[.string s] w fun e w' => e = .returned (.int .i64 (Pl.whole s : Nat)) /\ w' = w := by
  have gb := Pl.get_byt s
  have hb5 := Pl.byt_lt s 5
  by_cases h6 : s.size < 6
  . have HB : Hid (Pl.whole s = 0) := by show _ = _; unfold Pl.whole; rw [if_pos (.inl h6)]
    go_enter Tryz.func109, Tryz.ntmps109
    go_wp2
    go_ret
    exact ⟨rint (by rw [HB.out]; rfl), rfl⟩
  . cases hbrk : Pl.brk s
    . by_cases hw : s.size < 6 + Pl.byt s 5
      . have HB : Hid (Pl.whole s = 0) := by show _ = _; unfold Pl.whole; rw [if_neg (by simp [hbrk]; omega), if_pos hw]
        go_enter Tryz.func109, Tryz.ntmps109
        go_wp2_with fail
        refine (breaks_any s _ hs).mono ?_
        rintro e w' ⟨rfl, rfl⟩
        rw [hbrk]; clear hbrk
        go_wp2
        go_ret
        exact ⟨rint (by rw [HB.out]; rfl), rfl⟩
      . have HB : Hid (Pl.whole s = 6 + Pl.byt s 5) := by show _ = _; unfold Pl.whole; rw [if_neg (by simp [hbrk]; omega), if_neg hw]
        go_enter Tryz.func109, Tryz.ntmps109
        go_wp2_with fail
        refine (breaks_any s _ hs).mono ?_
        rintro e w' ⟨rfl, rfl⟩
        rw [hbrk]; clear hbrk
        go_wp2
        go_ret
        exact ⟨rint (by rw [HB.out]; omega), rfl⟩
    . have HB : Hid (Pl.whole s = 0) := by show _ = _; unfold Pl.whole; rw [if_pos (.inr hbrk)]
      go_enter Tryz.func109, Tryz.ntmps109
      go_wp2_with fail
      refine (breaks_any s _ hs).mono ?_
      rintro e w' ⟨rfl, rfl⟩
      rw [hbrk]; clear hbrk
      go_wp2
      go_ret
      exact ⟨rint (by rw [HB.out]; rfl), rfl⟩
end Go.Proofs.YtcpldcojckhapaaGreat
