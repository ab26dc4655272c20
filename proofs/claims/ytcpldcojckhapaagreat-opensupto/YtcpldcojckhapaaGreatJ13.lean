/-
  
-/
import Derived.Test.YtcpldcojckhapaaGreatJ12
import Derived.Test.YtcpldcojckhapaaGreatJ7
import Derived.Test.YtcpldcojckhapaaGreatBV
import Derived.Test.YtcpldcojckhapaaGreatPlain
import Derived.WalkKit
import Derived.WalkSpells
import Derived.WalkLawsBesides
import Derived.Below
import Derived.Deep.RegionWith
import Derived.Deep.QuietTactic
import Derived.BigQuiet
import Derived.BigRegion
import Derived.PlainAid
set_option maxRecDepth 100000
namespace Go.Proofs.YtcpldcojckhapaaGreat
open Go.RowKit
theorem own_short {w : World} {B g c n : Nat} {r : List (Int × Int × ByteArray)} {x : Int × Int × ByteArray} (h : w.ownsRow B 163 3 (.slice (some ⟨g, 0, none⟩) (r ++ [x]).length c) (r ++ [x]).length ((r ++ [x]).flatMap encF)) (hn : r.length = n) : w.ownsRow B 163 3 (.slice (some ⟨g, 0, none⟩) n c) r.length (r.flatMap encF) := by
  refine ⟨flat_len encF 3 (fun _ => rfl) r, ?_⟩
  rcases h.2 with ⟨he, _⟩ | ⟨g', cap, cur', hv, hb, hh, h1, h2, h3, h4⟩
  . simp at he
  . simp only [Value.slice.injEq, Option.some.injEq, Addr.mk.injEq, and_true, true_and] at hv
    obtain ⟨rfl, rfl⟩ := hv
    rw [List.length_append] at h1 h4
    refine .inr ⟨g, c, cur', by rw [hn], hb, hh, by omega, h2, h3, ?_⟩
    have e := congrArg (List.take (r.length * 3)) h4
    rw [List.take_take, Nat.min_eq_left (by omega), List.flatMap_append, List.take_append_of_le_length (by rw [flat_len encF 3 (fun _ => rfl) r]; omega)] at e
    rw [e, List.take_of_length_le (by rw [flat_len encF 3 (fun _ => rfl) r]; omega)]
set_option maxRecDepth 100000 in
set_option maxHeartbeats 1000000 in
theorem hpopm_any {B : Nat} (d n : Nat) (cur : Array Value) (wv : Value) (r : List (Int × Int × ByteArray)) (x : Int × Int × ByteArray) (w : World) (hn : r.length = n) (hl : n <= 1000) (h : WaitIn B w d cur wv (r ++ [x])) :
    Calls Tryz.prog 196 #[.pointer (some ⟨d, 14, none⟩)] w fun e w' => ∃ v', e = .returned (.iface 163 (.agg #[.int .i64 x.1, .int .i64 x.2.1, .string x.2.2])) /\ WaitIn B w' d (cur.setIfInBounds 14 v') v' r /\ FtT B (wtT d) w w' := by
  have c14 := h.cell
  have f14 := h.fz
  have hdl := lt_of_block h.dev
  obtain ⟨g, c, rfl, hg, a0, a1, a2⟩ := own_ans h.own (i := n) (x := x) (by rw [<- hn]; simp)
  have hz : (r ++ [x]).length = n + 1 := by rw [List.length_append, hn]; rfl
  have hcn : n + 1 <= c := by
    rcases h.own.2 with ⟨he, _⟩ | ⟨g', cap, cur', hv, hb, hh, h1, h2, h3, h4⟩
    . simp at he
    . simp only [Value.slice.injEq] at hv
      omega
  rw [hz] at c14
  have HW := hideF h
  have HS := hideF (own_short h.own hn)
  clear h hn hz
  go_enter Tryz.func196, Tryz.ntmps196
  go_wp2_with fail
  go_ret
  refine ⟨_, rfl, (WaitIn.set HW.out.dev HW.out.size HW.out.lo HS.out).below (bel_alloc (Below.refl _ _) _), ?_⟩
  exact ((FtT.refl (wtT d) w).setCell HW.out.dev (wtT_d _) HW.out.lo _ _).alloc _
theorem mrow (nm : String) (f : FuncId) (h : ((Tryz.prog.info? 160).bind fun I => (I.methods.find? (·.name == nm)).map fun m => (m.path.toList.isEmpty, m.func)) = some (true, some (f, false))) (p : Addr) (v : Value) (W : World) (hl : (loadVar 108 p).run Tryz.prog W = .ok v W) :
    (method 372 160 (.pointer (some p)) nm).run Tryz.prog W = .ok (f, v) W := by
  obtain ⟨I, hI, hm⟩ := Option.bind_eq_some_iff.1 h
  obtain ⟨m, hm1, hm2⟩ := Option.map_eq_some_iff.1 hm
  obtain ⟨hp, hf⟩ := Prod.mk.inj hm2
  have hp' : m.path.toList = [] := List.isEmpty_iff.1 hp
  have hp2 : m.path = #[] := Array.toList_eq_nil_iff.1 hp'
  have hu := run_underlying (P := Tryz.prog) Tryz.underlying160 W
  have hw : ∀ s : String, (Builtin.ssaWrapNilChk_ #[160] 160 #[.pointer (some p), strVal "", strVal s]).run Tryz.prog W = .ok (.pointer (some p)) W := fun s => rfl
  unfold method
  simp [typeInfo, hI, hm1, hp2, follow, hf, receiverAt, hu, Place.get, hw, asAddr, hl, Result.andThen]
theorem mrowAt (nm : String) (f : FuncId) (h : ((Tryz.prog.info? 160).bind fun I => (I.methods.find? (·.name == nm)).map fun m => (m.path.toList.isEmpty, m.func)) = some (true, some (f, false))) (d n c : Nat) (a : Option Addr) (W : World) (hc : W.cell? ⟨d, 14, none⟩ = some (.slice a n c)) :
    (method 372 160 (.pointer (some ⟨d, 14, none⟩)) nm).run Tryz.prog W = .ok (f, .slice a n c) W := mrow nm f h _ _ W (by simp [go_sem, loadVar, hc])
theorem mthLen (d n c : Nat) (a : Option Addr) (W : World) (hc : W.cell? ⟨d, 14, none⟩ = some (.slice a n c)) : (method 372 160 (.pointer (some ⟨d, 14, none⟩)) "Len").run Tryz.prog W = .ok (88, .slice a n c) W := mrowAt "Len" 88 (by kernel_rfl) d n c a W hc
theorem mthLess (d n c : Nat) (a : Option Addr) (W : World) (hc : W.cell? ⟨d, 14, none⟩ = some (.slice a n c)) : (method 372 160 (.pointer (some ⟨d, 14, none⟩)) "Less").run Tryz.prog W = .ok (194, .slice a n c) W := mrowAt "Less" 194 (by kernel_rfl) d n c a W hc
theorem mthSwap (d n c : Nat) (a : Option Addr) (W : World) (hc : W.cell? ⟨d, 14, none⟩ = some (.slice a n c)) : (method 372 160 (.pointer (some ⟨d, 14, none⟩)) "Swap").run Tryz.prog W = .ok (195, .slice a n c) W := mrowAt "Swap" 195 (by kernel_rfl) d n c a W hc
theorem mthPush (p : Option Addr) (W : World) : (method 372 160 (.pointer p) "Push").run Tryz.prog W = .ok (197, .pointer p) W := by kernel_rfl
theorem mthPop (p : Option Addr) (W : World) : (method 372 160 (.pointer p) "Pop").run Tryz.prog W = .ok (196, .pointer p) W := by kernel_rfl
set_option maxRecDepth 100000 in
set_option maxHeartbeats 1000000 in
theorem up_zero (d n c : Nat) (a : Option Addr) (w : World) (_h : w.cell? ⟨d, 14, none⟩ = some (.slice a n c)) :
    Calls Tryz.prog 169 #[.iface 160 (.pointer (some ⟨d, 14, none⟩)), .int .i64 0] w fun e w' => e = .returned (.tuple #[]) /\ w' = w := by
  go_enter Tryz.func169, Tryz.ntmps169
  go_wp2_with fail
  go_loopw [1] (fun j wr => j = .int .i64 0 /\ wr = w) (fun _ _ => 0)
  case atStart => exact ⟨rfl, rfl⟩
  case round =>
    obtain ⟨rfl, rfl⟩ := hrel
    go_wp2_with fail
    go_end0
    exact ⟨rfl, rfl⟩
set_option maxRecDepth 100000 in
set_option maxHeartbeats 1000000 in
theorem up_pos (d m B : Nat) (v : Value) (l : List (Int × Int × ByteArray)) (x y : Int × Int × ByteArray) (w : World) (hc : w.cell? ⟨d, 14, none⟩ = some v) (h : w.ownsRow B 163 3 v l.length (l.flatMap encF)) (hx : l[m + 1]? = some x) (hy : l[m / 2]? = some y) (hb : decide (x.1 < y.1) = false) (hm : m <= 100000) :
    Calls Tryz.prog 169 #[.iface 160 (.pointer (some ⟨d, 14, none⟩)), .int .i64 ((m : Int) + 1)] w fun e w' => e = .returned (.tuple #[]) /\ ∃ k, w' = w.drewN k := by
  have hL := hless_any B (m + 1) (m / 2) v l x y false w h hx hy hb
  obtain ⟨a, c, rfl, _⟩ := own_view h
  have m1 := mthLess d l.length c a w hc
  have ne : ((m : Int) / 2 == (m : Int) + 1) = false := by rw [beq_eq_false_iff_ne]; omega
  have e1 : ((m + 1 : Nat) : Int) = (m : Int) + 1 := by omega
  have e2 : ((m / 2 : Nat) : Int) = (m : Int) / 2 := by omega
  rw [e1, e2] at hL
  have HL := hideF hL
  clear hL hx hy hb h e1 e2
  go_enter Tryz.func169, Tryz.ntmps169
  go_wp2_with fail
  go_loopw [1] (fun j wr => j = .int .i64 ((m : Int) + 1) /\ wr = w) (fun _ _ => 0)
  case atStart => exact ⟨rfl, rfl⟩
  case round =>
    obtain ⟨rfl, rfl⟩ := hrel
    go_wp2_with fail
    refine HL.out.mono ?_
    rintro e w1 ⟨rfl, k, rfl⟩
    go_wp2_with fail
    go_end0
    exact ⟨rfl, k, rfl⟩
theorem up_last {B : Nat} (d : Nat) (cur : Array Value) (v : Value) (l : List (Int × Int × ByteArray)) (x : Int × Int × ByteArray) (w : World) (hl : l.length <= 1000) (h : WaitIn B w d cur v (l ++ [x])) (hx : ∀ y ∈ l, y.1 < x.1) :
    Calls Tryz.prog 169 #[.iface 160 (.pointer (some ⟨d, 14, none⟩)), .int .i64 (l.length : Nat)] w fun e w' => e = .returned (.tuple #[]) /\ ∃ k, w' = w.drewN k := by
  cases hn : l.length with
  | zero =>
    obtain ⟨a, c, rfl, _⟩ := own_view h.own
    exact (up_zero d _ c a w h.cell).mono fun e w' h => ⟨h.1, 0, h.2⟩
  | succ m =>
    have h1 : (l ++ [x])[m + 1]? = some x := by rw [<- hn]; simp
    have h2 : (l ++ [x])[m / 2]? = some l[m / 2] := by rw [List.getElem?_append_left (by omega)]; exact List.getElem?_eq_getElem (by omega)
    have h3 := hx l[m / 2] (List.getElem_mem (by omega))
    have := up_pos d m B v (l ++ [x]) x _ w h.cell h.own h1 h2 (by simp; omega) (by omega)
    rwa [show ((m + 1 : Nat) : Int) = (m : Int) + 1 by omega]
theorem WaitIn.drewN {B : Nat} {w : World} {d : Nat} {cur : Array Value} {wv : Value} {l : List (Int × Int × ByteArray)} (h : WaitIn B w d cur wv l) (k : Nat) : WaitIn B (w.drewN k) d cur wv l := h.below (below_drewN (Below.refl _ _) _)
set_option maxRecDepth 100000 in
set_option maxHeartbeats 1000000 in
theorem heapPush_any {B : Nat} (d : Nat) (cur : Array Value) (wv : Value) (l : List (Int × Int × ByteArray)) (x : Int × Int × ByteArray) (w : World) (hl : l.length <= 1000) (h : WaitIn B w d cur wv l) (hx : ∀ y ∈ l, y.1 < x.1) :
    Calls Tryz.prog 146 #[.iface 160 (.pointer (some ⟨d, 14, none⟩)), .iface 163 (.agg #[.int .i64 x.1, .int .i64 x.2.1, .string x.2.2])] w fun e w' => ∃ v', e = .returned (.tuple #[]) /\ WaitIn B w' d (cur.setIfInBounds 14 v') v' (l ++ [x]) /\ FtT B (wtT d) w w' := by
  have m1 := mthPush (some ⟨d, 14, none⟩)
  have HX := hideF hx
  have HW := hideF h
  clear hx h
  go_enter Tryz.func146, Tryz.ntmps146
  go_wp2_with fail
  refine (hpush_any d cur wv l x w hl HW.out).mono ?_
  rintro e w1 ⟨v', rfl, hw1, hf1⟩
  obtain ⟨a, c, hv', _⟩ := own_view hw1.own
  rw [List.length_append] at hv'
  have c14 := hw1.cell
  have HW1 := hideF hw1
  have HF1 := hideF hf1
  clear hw1 hf1
  subst hv'
  have m2 := mthLen d _ c a w1 c14
  go_wp2_with fail
  refine (hlen_any _ _ _ _).mono ?_
  rintro e w2 ⟨rfl, rfl⟩
  go_wp2_with fail
  refine (up_last d _ _ l x _ hl HW1.out HX.out).mono ?_
  rintro e w3 ⟨rfl, k, rfl⟩
  go_wp2
  go_end0
  exact ⟨_, rfl, HW1.out.drewN k, HF1.out.drewN k⟩
set_option maxRecDepth 100000 in
set_option maxHeartbeats 1000000 in
theorem hadd_any {B : Nat} (d : Nat) (cur : Array Value) (wv : Value) (l : List (Int × Int × ByteArray)) (x : Int × Int × ByteArray) (w : World) (hl : l.length <= 1000) (h : WaitIn B w d cur wv l) (hx : ∀ y ∈ l, y.1 < x.1) :
    Calls Tryz.prog 117 #[.pointer (some ⟨d, 14, none⟩), .agg #[.int .i64 x.1, .int .i64 x.2.1, .string x.2.2]] w fun e w' => ∃ v', e = .returned (.tuple #[]) /\ WaitIn B w' d (cur.setIfInBounds 14 v') v' (l ++ [x]) /\ FtT B (wtT d) w w' := by
  have HW := hideF (h.below (bel_alloc (Below.refl _ _) (.cells #[.int .i64 x.1, .int .i64 x.2.1, .string x.2.2] 163)))
  have HF := hideF ((FtT.refl (B := B) (wtT d) w).alloc (.cells #[.int .i64 x.1, .int .i64 x.2.1, .string x.2.2] 163))
  have HX := hideF hx
  clear hx h
  go_enter Tryz.func117, Tryz.ntmps117
  go_wp2_with fail
  refine (heapPush_any d cur wv l x _ hl HW.out HX.out).mono ?_
  rintro e w1 ⟨v', rfl, hw1, hf1⟩
  have HW1 := hideF hw1
  have HF1 := hideF (HF.out.trans hf1)
  clear hw1 hf1
  go_wp2
  go_end0
  exact ⟨_, rfl, HW1.out, HF1.out⟩
end Go.Proofs.YtcpldcojckhapaaGreat

set_option maxRecDepth 100000
namespace Go.Proofs.YtcpldcojckhapaaGreat
open Go.RowKit
set_option maxRecDepth 100000 in
set_option maxHeartbeats 1000000 in
theorem down_none (p : Value) (n : Int) (w : World) (hn : n <= 1) :
    Calls Tryz.prog 119 #[.iface 160 p, .int .i64 0, .int .i64 n] w fun e w' => e = .returned (.bool false) /\ w' = w := by
  have h1 : decide ((1 : Int) ≥ n) = true := by simp; omega
  go_enter Tryz.func119, Tryz.ntmps119
  go_wp2_with fail
  go_loopw [7] (fun j wr => j = .int .i64 0 /\ wr = w) (fun _ _ => 0)
  case atStart => exact ⟨rfl, rfl⟩
  case round =>
    obtain ⟨rfl, rfl⟩ := hrel
    go_wp2_with fail
    go_ret
    exact ⟨rfl, rfl⟩
theorem WaitIn.swapped {B : Nat} {w w' : World} {d g c : Nat} {cur : Array Value} {l l' : List (Int × Int × ByteArray)} (h : WaitIn B w d cur (.slice (some ⟨g, 0, none⟩) l.length c) l) (hl : l.length = l'.length) (ho : w'.ownsRow B 163 3 (.slice (some ⟨g, 0, none⟩) l.length c) l.length (l'.flatMap encF)) (hc : Chg1 g w w') :
    WaitIn B w' d cur (.slice (some ⟨g, 0, none⟩) l.length c) l' /\ FtT B (wtT d) w w' := by
  obtain ⟨cg, hcg⟩ := own_block h.own g rfl
  refine ⟨⟨(hc.block d (lt_of_block h.dev) (ne_of_types h.dev hcg (by decide))).trans h.dev, h.size, h.at14, by rw [<- hl]; exact ho, h.lo⟩, ?_⟩
  exact ⟨hc.os, hc.tape, hc.output, hc.size, fun k cur' t hk ht => hc.block k (lt_of_block hk) (ne_of_types hk hcg (fun e => by rw [e] at ht; simp [wtT] at ht)), fun k hkB hks => hc.block k hks (by have := (h.own.lt g rfl).1; omega)⟩
set_option maxRecDepth 100000 in
set_option maxHeartbeats 1000000 in
theorem heapPop_one {B : Nat} (d : Nat) (cur : Array Value) (wv : Value) (x : Int × Int × ByteArray) (w : World) (h : WaitIn B w d cur wv [x]) :
    Calls Tryz.prog 89 #[.iface 160 (.pointer (some ⟨d, 14, none⟩))] w fun e w' => ∃ v', e = .returned (.iface 163 (.agg #[.int .i64 x.1, .int .i64 x.2.1, .string x.2.2])) /\ WaitIn B w' d (cur.setIfInBounds 14 v') v' [] /\ FtT B (wtT d) w w' := by
  obtain ⟨g, c, rfl, hg, _, _, _⟩ := own_ans h.own (i := 0) (x := x) rfl
  have c14 := h.cell
  have m1 := mthLen d _ c _ w c14
  have m2 := mthSwap d _ c _ w c14
  have HS := hideF (hswap_same B g c [x] x w h.own rfl)
  have HW := hideF h
  clear h
  go_enter Tryz.func89, Tryz.ntmps89
  go_wp2_with fail
  refine (hlen_any _ _ _ _).mono ?_
  rintro e w1 ⟨rfl, rfl⟩
  go_wp2_with fail
  refine HS.out.mono ?_
  rintro e w2 ⟨rfl, ho2, hc2⟩
  obtain ⟨hw2, hf2⟩ := HW.out.swapped rfl ho2 hc2
  have HW2 := hideF hw2
  have HF2 := hideF hf2
  clear ho2 hc2 hw2 hf2 m1 m2 c14
  go_wp2_with fail
  refine (down_none _ _ _ (by decide)).mono ?_
  rintro e w3 ⟨rfl, rfl⟩
  have m3 := mthPop (some ⟨d, 14, none⟩)
  go_wp2_with fail
  refine (hpopm_any d 0 cur _ [] x _ rfl (by omega) HW2.out).mono ?_
  rintro e w4 ⟨v', rfl, hw4, hf4⟩
  have HW4 := hideF hw4
  have HF4 := hideF (HF2.out.trans hf4)
  clear hw4 hf4
  go_wp2
  go_ret
  exact ⟨_, rfl, HW4.out, HF4.out⟩
end Go.Proofs.YtcpldcojckhapaaGreat

set_option maxRecDepth 100000
namespace Go.Proofs.YtcpldcojckhapaaGreat
open Go.RowKit
theorem FtT.grown_new {B : Nat} {T : Nat -> TypeId -> Bool} {a w w' : World} {row : Option Nat} (h : FtT B T a w) (hg : w.grownBy w' row) (hr : ∀ k, row = some k -> a.heap.size <= k) : FtT B T a w' :=
  ⟨hg.os.trans h.os, hg.tape.trans h.tape, hg.output.trans h.output, Nat.le_trans h.size hg.size, fun g cur t hk ht => (hg.block g (Nat.lt_of_lt_of_le (lt_of_block hk) h.size) (fun e => by have := hr g e.symm; have := lt_of_block hk; omega)).trans (h.keep g cur t hk ht), fun g hgB hgs => (hg.block g (Nat.lt_of_lt_of_le hgs h.size) (fun e => by have := hr g e.symm; omega)).trans (h.low g hgB hgs)⟩
def sendOf (x : Int × Int × ByteArray) : Int × Int × Int × ByteArray := (2, 0, x.2.1, x.2.2)
set_option maxRecDepth 100000 in
set_option maxHeartbeats 1000000 in
theorem hsend_any (x : Int × Int × ByteArray) (w : World) :
    Calls Tryz.prog 90 #[.agg #[.int .i64 x.1, .int .i64 x.2.1, .string x.2.2]] w fun e w' => e = .returned (.agg #[.int .u8 2, .int .i64 0, .int .i64 x.2.1, .string x.2.2]) /\ Below w.heap.size w w' := by
  go_enter Tryz.func90, Tryz.ntmps90
  go_wp2
  refine bodyPost_ret (v := .agg #[.int .u8 2, .int .i64 0, .int .i64 x.2.1, .string x.2.2]) (by simp [results, Tryz.results90, go_sem]) rfl ⟨rfl, ?_⟩
  exact bel_alloc (bel_alloc (Below.refl _ _) _) _
def sliceLen : Value -> Nat
  | .slice _ n _ => n
  | _ => 0
def Pops (B d : Nat) (R : List (Int × Int × ByteArray) -> List (Int × Int × ByteArray) -> Prop) : Prop :=
  ∀ (h s : List (Int × Int × ByteArray)) (x : Int × Int × ByteArray) (cur : Array Value) (wv : Value) (w : World), R h (x :: s) -> WaitIn B w d cur wv h ->
    Calls Tryz.prog 89 #[.iface 160 (.pointer (some ⟨d, 14, none⟩))] w fun e w' => ∃ v' h', e = .returned (.iface 163 (.agg #[.int .i64 x.1, .int .i64 x.2.1, .string x.2.2])) /\ R h' s /\ WaitIn B w' d (cur.setIfInBounds 14 v') v' h' /\ FtT B (wtT d) w w'
def Two (h s : List (Int × Int × ByteArray)) : Prop := h = s /\ s.length <= 2
set_option maxRecDepth 100000 in
set_option maxHeartbeats 1000000 in
theorem sendAll_any {B : Nat} (d : Nat) (R : List (Int × Int × ByteArray) -> List (Int × Int × ByteArray) -> Prop) (hR : ∀ h s, R h s -> h.length = s.length) (hP : Pops B d R) (cur : Array Value) (wv : Value) (h s : List (Int × Int × ByteArray)) (w : World) (hl : s.length <= 1000) (hh : R h s) (hw : WaitIn B w d cur wv h) :
    Calls Tryz.prog 60 #[.pointer (some ⟨d, 14, none⟩)] w fun e w' => ∃ v, e = .returned v /\ w'.ownsRow w.heap.size 77 4 v s.length ((s.map sendOf).flatMap encA) /\ WaitIn B w' d (cur.setIfInBounds 14 (.slice none 0 0)) (.slice none 0 0) [] /\ FtT B (wtT d) w w' := by
  obtain ⟨i0, hi, hz0, hz1, hz2⟩ := info_parts Tryz.infoEA
  have HP := hideF hP
  have HR := hideF hR
  have HH := hideF hh
  have HW := hideF hw
  clear hP hR hh hw
  go_enter Tryz.func60, Tryz.ntmps60
  go_wp2_with fail
  go_loopw [3] (fun v wr => ∃ (p r hr : List (Int × Int × ByteArray)) (wv' : Value) (cur' : Array Value), s = p ++ r /\ R hr r /\ wr.ownsRow w.heap.size 77 4 v p.length ((p.map sendOf).flatMap encA) /\ WaitIn B wr d cur' wv' hr /\ cur'.setIfInBounds 14 (.slice none 0 0) = cur.setIfInBounds 14 (.slice none 0 0) /\ FtT B (wtT d) w wr) (fun v _ => s.length - sliceLen v)
  case atStart => exact ⟨[], s, h, wv, cur, rfl, HH.out, World.ownsRow_nil _ _ _ _, HW.out, rfl, FtT.refl _ _⟩
  case round =>
    obtain ⟨p, r, hr, wv', cur', hs, hrr, hown, hw, hcur, hf⟩ := hrel
    obtain ⟨a1, k1, rfl, _⟩ := own_view hw.own
    obtain ⟨a3, k3, rfl, _⟩ := own_view hown
    have hlr := HR.out hr r hrr
    have c14 := hw.cell
    have f14 := hw.fz
    have HO := hideF hown
    have HWR := hideF hw
    have HCU := hideF hcur
    have HF := hideF hf
    have HRR := hideF hrr
    have HSE := hideF hs
    have hsz := hf.size
    have hpl : p.length + r.length = s.length := by rw [hs, List.length_append]
    clear hown hw hcur hf hrr hs
    cases r with
    | nil =>
      have h0 : hr.length = 0 := hlr
      have hr0 : hr = [] := List.eq_nil_of_length_eq_zero h0
      subst hr0
      have h0' : decide ((0 : Int) < ((([] : List (Int × Int × ByteArray)).length : Nat) : Int)) = false := rfl
      go_wp2_with fail
      refine (hlen_any _ _ _ _).mono ?_
      rintro e w1 ⟨rfl, rfl⟩
      go_wp2_with fail
      go_ret
      have hsp : s = p := by have := HSE.out; rwa [List.append_nil] at this
      refine ⟨_, rfl, ?_, ?_, HF.out.setCell HWR.out.dev (wtT_d _) HWR.out.lo _ _⟩
      . rw [hsp]
        refine own_same HO.out (fun g hg => heap_setCell_other _ _ _ _ (by have := (HO.out.lt g hg).1; obtain ⟨cg, hcg⟩ := own_block HO.out g hg; exact ne_of_types hcg HWR.out.dev (by decide)))
      . have := WaitIn.set HWR.out.dev HWR.out.size HWR.out.lo (v := .slice none 0 0) (l' := []) (World.ownsRow_nil _ _ _ _)
        rw [HCU.out] at this
        exact this
    | cons x r =>
      have hlr' : hr.length = r.length + 1 := hlr
      have h0' : decide ((0 : Int) < (hr.length : Int)) = true := by simp; omega
      have hta := assertAns x
      go_wp2_with fail
      refine (hlen_any _ _ _ _).mono ?_
      rintro e w1 ⟨rfl, rfl⟩
      go_wp2_with fail
      refine (HP.out hr r x cur' _ _ HRR.out HWR.out).mono ?_
      rintro e w2 ⟨v2, h2, rfl, hr2, hw2, hf2⟩
      have HR2 := hideF hr2
      have HW2 := hideF hw2
      have HF2 := hideF (HF.out.trans hf2)
      have HO2 := hideF (own_same (w' := w2) HO.out (fun g hg => by obtain ⟨cg, hcg⟩ := own_block HO.out g hg; exact hf2.keep g cg 77 hcg rfl))
      have hsz2 := HF2.out.size
      clear hr2 hw2 hf2 HRR HWR HO c14 f14
      go_wp2_with fail
      refine (hsend_any x _).mono ?_
      rintro e w3 ⟨rfl, hb3⟩
      have HW3 := hideF (HW2.out.below hb3)
      have HF3 := hideF (HF2.out.then_below hb3)
      have HO3 := hideF (ownsRow_below HO2.out hb3)
      have hsz3 := HF3.out.size
      clear hb3 HW2 HF2 HO2
      go_wp2_with (at_builtin; refine wpList_append_own _ rfl (.tmp 9) (.tmp 15) 31 rfl w.heap.size 77 i0 _ 4 40 Tryz.underlying31 hi hz0 hz1 hz2 rfl (by decide) (.slice a3 p.length k3) p.length _ rfl (HO3.out.alloc _) ⟨w3.heap.size, 0, none⟩ 1 1 [.int .u8 2, .int .i64 0, .int .i64 x.2.1, .string x.2.2] rfl rfl (cell_four_new _ _ _ _ _ _) (by intro u hu; simp at hu; rcases hu with rfl | rfl | rfl | rfl <;> rfl) (by unfold maxLen; omega) (by omega) (by simp; omega) ?_; intro v' w4 hown4 hgrow4 _; obtain ⟨a4, k4, rfl, _⟩ := own_view hown4)
      go_roundw
      case rel =>
        have hg4 : Below w3.heap.size w3 (w3.alloc (.cells #[.int .u8 2, .int .i64 0, .int .i64 x.2.1, .string x.2.2] 77)) := bel_alloc (Below.refl _ _) _
        have hW4 := HW3.out.below hg4
        refine ⟨p ++ [x], r, h2, v2, _, by rw [HSE.out]; simp, HR2.out, ?_, ⟨?_, hW4.size, hW4.at14, own_same hW4.own (fun g hg => hgrow4.block g (hW4.own.lt g hg).2 ?_), hW4.lo⟩, ?_, ?_⟩
        . rw [List.map_append, List.flatMap_append, List.length_append]; exact hown4
        . rw [hgrow4.block d (lt_of_block hW4.dev) (fun e => by have := (HO3.out.lt d e.symm).1; obtain ⟨cg, hcg⟩ := own_block HO3.out d e.symm; exact ne_of_types hcg HW3.out.dev (by decide) rfl)]
          exact hW4.dev
        . intro e
          obtain ⟨cg, hcg⟩ := own_block HO3.out g e.symm
          obtain ⟨cg', hcg'⟩ := own_block HW3.out.own g hg
          exact ne_of_types hcg hcg' (by decide) rfl
        . rw [<- HCU.out]; simp
        . exact (HF3.out.alloc _).grown_new hgrow4 (fun k hk => (HO3.out.lt k hk).1)
      case measure => simp [sliceLen]; omega
end Go.Proofs.YtcpldcojckhapaaGreat

set_option maxRecDepth 100000
namespace Go.Proofs.YtcpldcojckhapaaGreat
open Go.RowKit
theorem splice_at {α : Type} (L : List α) (off : Nat) (cs : List α) (h : off + cs.length <= L.length) (k : Nat) : (splice L off cs)[k]? = if off <= k /\ k < off + cs.length then cs[k - off]? else L[k]? := by
  unfold splice
  by_cases h1 : k < off
  . rw [if_neg (by omega), List.getElem?_append_left (by rw [List.length_take]; omega), List.getElem?_take_of_lt h1]
  . rw [List.getElem?_append_right (by rw [List.length_take]; omega), List.length_take, Nat.min_eq_left (by omega)]
    by_cases h2 : k < off + cs.length
    . rw [if_pos ⟨by omega, h2⟩, List.getElem?_append_left (by omega)]
    . rw [if_neg (by omega), List.getElem?_append_right (by omega), List.getElem?_drop, show off + cs.length + (k - off - cs.length) = k by omega]
def entW (D : Dev) (x : Pl.Shp) (i k : Nat) : Int := if i = x.into /\ x.to <= k /\ k < x.to + x.vals.length then x.vals.getD (k - x.to) 0 else D.ent i k
theorem DevIn.belowQ {w w' : World} {d L S : Nat} {E : Nat -> Nat} {wv : Value} {D : Dev} (h : DevIn w d L S E wv D) (hb : Below w.heap.size w w') : DevIn w' d L S E wv D :=
  ⟨(hb.block d (lt_of_block h.dev)).trans h.dev, h.lines.below hb h.lines.lt, fun i hi => (h.ent i hi).below hb (h.ent i hi).lt, h.inj, (hb.block S (lt_of_block h.store)).trans h.store, ownsRow_below h.wait hb, h.lo⟩
theorem DevIn.drewN {w : World} {d L S : Nat} {E : Nat -> Nat} {wv : Value} {D : Dev} (h : DevIn w d L S E wv D) (k : Nat) : DevIn (w.drewN k) d L S E wv D := h.belowQ (below_drewN (Below.refl _ _) _)
theorem DevIn.put {w w' : World} {d L S : Nat} {E : Nat -> Nat} {wv : Value} {D : Dev} (h : DevIn w d L S E wv D) {j : Nat} (hj : j < 4) {f : Nat -> Nat -> Int} (hc : Chg1 (E j) w w') (hG : Grid w' (E j) 3 (D.sz j) 1 (fun k _ => .int .i64 (f j k))) (hf : ∀ i k, i ≠ j -> f i k = D.ent i k) :
    DevIn w' d L S E wv { D with ent := f } := by
  obtain ⟨ce, hce⟩ := (h.ent j hj).block
  obtain ⟨cl, hcl⟩ := h.lines.block
  refine ⟨(hc.block d (lt_of_block h.dev) (ne_of_types h.dev hce (by decide))).trans h.dev, h.lines.same (hc.block L (lt_of_block hcl) (ne_of_types hcl hce (by decide))), fun i hi => ?_, h.inj, (hc.block S (lt_of_block h.store) (ne_of_types h.store hce (by decide))).trans h.store, own_same h.wait (fun g hg => ?_), h.lo⟩
  . by_cases e : i = j
    . subst e; exact hG
    . refine ((h.ent i hi).same (hc.block (E i) (h.ent i hi).lt (h.inj i j hi hj e))).congr fun a b _ _ => ?_
      show Value.int .i64 (D.ent i a) = Value.int .i64 (f i a)
      rw [hf i a e]
  . obtain ⟨cg, hcg⟩ := own_block h.wait g hg
    exact hc.block g (lt_of_block hcg) (ne_of_types hcg hce (by decide))
theorem grid_splice {w : World} {g s : Nat} {cur : Array Value} {f : Nat -> Int} {off : Nat} {vs : List Int} (hcs : cur.size = s) (hcv : ∀ k, k < s -> cur[k]? = some (.int .i64 (f k))) (hfit : off + vs.length <= s) (hg : w.heap[g]? = some (.cells (splice cur.toList off (vs.flatMap encI)).toArray 3 (0, 0))) :
    Grid w g 3 s 1 (fun k _ => .int .i64 (if off <= k /\ k < off + vs.length then vs.getD (k - off) 0 else f k)) := by
  have hl : (vs.flatMap encI).length = vs.length := by rw [encI_len, Nat.mul_one]
  have hfit' : off + (vs.flatMap encI).length <= cur.toList.length := by rw [hl]; have := Array.length_toList (xs := cur); omega
  refine ⟨_, hg, by rw [List.size_toArray, length_splice _ _ _ hfit', Array.length_toList, hcs, Nat.mul_one], fun i j hi hj => ?_⟩
  obtain rfl : j = 0 := by omega
  rw [Nat.mul_one, Nat.add_zero, List.getElem?_toArray, splice_at _ _ _ hfit', hl]
  by_cases e : off <= i /\ i < off + vs.length
  . have hlt : i - off < vs.length := by omega
    rw [if_pos e, encI_at vs (i - off) vs[i - off] (List.getElem?_eq_getElem hlt)]
    show _ = some (Value.int .i64 (if off <= i /\ i < off + vs.length then vs.getD (i - off) 0 else f i))
    rw [if_pos e, List.getD_eq_getElem?_getD, List.getElem?_eq_getElem hlt]
    rfl
  . rw [if_neg e, Array.getElem?_toList, hcv i hi]
    show _ = some (Value.int .i64 (if off <= i /\ i < off + vs.length then vs.getD (i - off) 0 else f i))
    rw [if_neg e]
set_option maxRecDepth 100000 in
set_option maxHeartbeats 1000000 in
theorem write_copy (d L S B : Nat) (E : Nat -> Nat) (wv : Value) (D : Dev) (x : Pl.Shp) (v : Value) (b : Bool) (w : World) (h : DevIn w d L S E wv D) (hi : x.into < 4) (hf : x.fn ≠ 22) (hv : w.ownsRow B 3 1 v x.vals.length (x.vals.flatMap encI)) (hfit : x.to + x.vals.length <= D.sz x.into) (hm : x.many <= 100000)
    (hb : b = (decide (0 < x.many) && decide (x.to < D.kp x.into))) :
    Calls Tryz.prog 115 #[.pointer (some ⟨d, 3, none⟩), shV x v] w fun e w' => e = .returned (.bool b) /\ DevIn w' d L S E wv { D with ent := entW D x } /\ Chg1 (E x.into) w w' := by
  obtain ⟨a, c, rfl, _⟩ := own_view hv
  unfold shV
  have e2 := h.cellE hi
  have k2 := h.cellK hi
  have hdl := lt_of_block h.dev
  have hi' : (x.into : Int) < 4 := by omega
  have hf' : ((x.fn : Int) == 22) = false := by rw [beq_eq_false_iff_ne]; omega
  obtain ⟨cur, hcur, hcs, hcv⟩ := h.ent x.into hi
  rw [Nat.mul_one] at hcs
  have hEl := lt_of_block hcur
  have hcv' : ∀ k, k < D.sz x.into -> cur[k]? = some (.int .i64 (D.ent x.into k)) := fun k hk => by have := hcv k 0 hk (by omega); rwa [Nat.mul_one, Nat.add_zero] at this
  have HCU : Hid (w.heap[E x.into]? = some (.cells cur.toList.toArray 3 (0, 0))) := by show _ = _; rw [Array.toArray_toList]; exact hcur
  have HCV := hideF hcv'
  have HCS := hideF hcs
  have HV := hideF hv
  have HH := hideF h
  have HB := hideF hb
  have hto : (x.to : Int) <= (D.sz x.into : Int) := by omega
  clear h hv hcv hcv' hcur hcs hf hb
  go_enter Tryz.func115, Tryz.ntmps115
  go_wp2_with fail
  go_quiet (fail)
  go_wp2_with fail
  obtain ⟨X, hX⟩ : ∃ X, X = (w.alloc (.cells #[.int .i64 (x.fn : Nat), .int .i64 (x.tab : Nat), .int .i64 (x.frm : Nat), .int .i64 (x.cnt : Nat), .int .i64 (x.into : Nat), .int .i64 (x.to : Nat), .int .i64 (x.many : Nat), .slice a x.vals.length c] 144)).drewN nq := ⟨_, rfl⟩
  have hXb : Below w.heap.size w X := by rw [hX]; exact below_drewN (bel_alloc (Below.refl _ _) _) _
  have hXg : X.heap[w.heap.size]? = some (.cells #[.int .i64 (x.fn : Nat), .int .i64 (x.tab : Nat), .int .i64 (x.frm : Nat), .int .i64 (x.cnt : Nat), .int .i64 (x.into : Nat), .int .i64 (x.to : Nat), .int .i64 (x.many : Nat), .slice a x.vals.length c] 144 (0, 0)) := by rw [hX]; exact heap_alloc_new w _
  obtain ⟨y0, y1, y2, y3, y4, y5, y6, y7, y8⟩ := cells8 hXg
  have HXb := hideF hXb
  have HXg := hideF hXg
  have HXE := hideF ((hXb.block (E x.into) hEl).trans HCU.out)
  have HXV := hideF (ownsRow_below HV.out hXb)
  rw [<- hX]
  clear hX hXb hXg e2
  have hmin : (x.vals.flatMap encI).length = Nat.min x.vals.length (D.sz x.into - x.to) := by rw [encI_len, Nat.mul_one]; exact (Nat.min_eq_left (by omega)).symm
  have hcl := Array.length_toList (xs := cur)
  have HMIN := hideF hmin
  have HCL := hideF hcl
  clear hmin hcl
  go_region_law (first
    | (refine step_copy_row rfl (.tmp 44) (.tmp 46) 28 28 rfl 3 Tryz.underlying28 Tryz.sizeInt _ _ _ _ _ _ rfl rfl (E x.into) x.to cur.toList 3 HXE.out (x.vals.flatMap encI) HMIN.out (fun hp => ⟨if_neg (by rw [encI_len, Nat.mul_one] at hp; omega), own_src (own_same (w' := X.drew) HXV.out (fun _ _ => rfl)) (by rw [encI_len, Nat.mul_one] at hp; exact hp)⟩) (by rw [encI_len, Nat.mul_one, HCL.out, HCS.out]; exact hfit) (encI_one _) ?_; intro w3 hg3 ho3))
  all_goals
    have hdE : d ≠ E x.into := ne_of_types HH.out.dev (show w.heap[E x.into]? = _ from HCU.out) (by decide)
    have hd3 := (ho3.block d hdE).trans ((HXb.out.block d hdl).trans HH.out.dev)
    have hg3' := (ho3.block w.heap.size (by omega)).trans HXg.out
    have k3 : w3.cell? ⟨d, 7 + x.into, none⟩ = some (.int .i64 (D.kp x.into : Nat)) := by
      rw [cell_of_row _ _ _ _ _ _ hd3, <- cell_of_row _ _ _ _ _ _ HH.out.dev]; exact k2
    obtain ⟨z0, z1, z2, z3, z4, z5, z6, z7, z8⟩ := cells8 hg3'
    have HC3 : Hid (Chg1 (E x.into) w w3) := ⟨ho3.os.trans HXb.out.os, ho3.tape.trans HXb.out.tape, ho3.output.trans HXb.out.output, Nat.le_trans HXb.out.size (Nat.le_of_eq ho3.size.symm), fun k hk hne => (ho3.block k hne).trans (HXb.out.block k hk)⟩
    have HG3 := hideF (grid_splice HCS.out HCV.out hfit hg3.out)
    have HD3 : Hid (DevIn w3 d L S E wv { D with ent := entW D x }) := HH.out.put hi HC3.out (HG3.out.congr fun i _ _ _ => by simp [entW]) (fun i k hne => by simp [entW, hne])
    clear hd3 hg3' ho3 hg3 y0 y1 y2 y3 y4 y5 y6 y7 y8 k2 HG3 HXE HXV
    by_cases m0 : 0 < x.many
    . have m0' : (0 : Int) < (x.many : Int) := by omega
      by_cases m1 : x.to < D.kp x.into
      . have m1' : (x.to : Int) < (D.kp x.into : Int) := by omega
        go_wp2_with fail
        all_goals
          go_quiet (fail)
          go_wp2
          go_ret
          refine ⟨?_, HD3.out.drewN _, HC3.out.drewN _⟩
          rw [HB.out]; simp [m0, m1]
      . have m1' : decide ((x.to : Int) < (D.kp x.into : Int)) = false := by simp; omega
        go_wp2_with fail
        all_goals
          go_quiet (fail)
          go_wp2
          go_ret
          refine ⟨?_, HD3.out.drewN _, HC3.out.drewN _⟩
          rw [HB.out]; simp [m0, m1]
    . have m0' : decide ((0 : Int) < (x.many : Int)) = false := by simp; omega
      go_wp2_with fail
      all_goals
        go_quiet (fail)
        go_wp2
        go_ret
        refine ⟨?_, HD3.out.drewN _, HC3.out.drewN _⟩
        rw [HB.out]; simp [m0]
end Go.Proofs.YtcpldcojckhapaaGreat

set_option maxRecDepth 100000
namespace Go.Proofs.YtcpldcojckhapaaGreat
open Go.RowKit
end Go.Proofs.YtcpldcojckhapaaGreat

set_option maxRecDepth 100000
namespace Go.Proofs.YtcpldcojckhapaaGreat
open Go.RowKit
set_option maxRecDepth 100000 in
set_option maxHeartbeats 1000000 in
theorem holdsBits_no (t : Nat) (w : World) (h : 2 <= t) : Calls Tryz.prog 100 #[.int .i64 (t : Nat)] w fun e w' => e = .returned (.bool false) /\ w' = w := by
  have h0 : ((t : Int) == 0) = false := by rw [beq_eq_false_iff_ne]; omega
  have h1 : ((t : Int) == 1) = false := by rw [beq_eq_false_iff_ne]; omega
  go_enter Tryz.func100, Tryz.ntmps100
  go_wp2
  go_ret
  exact ⟨rfl, rfl⟩
set_option maxRecDepth 100000 in
set_option maxHeartbeats 1000000 in
theorem read_words (d L S : Nat) (E : Nat -> Nat) (wv : Value) (D : Dev) (x : Pl.Shp) (n : Nat) (a : Option Addr) (c : Nat) (l : List Nat) (w : World) (h : DevIn w d L S E wv D) (ht : x.tab < 4) (ht2 : 2 <= x.tab) (hfit : x.frm + x.cnt <= D.sz x.tab) (hsz : D.sz x.tab <= 1000) (hl : l.length = x.cnt) (h16 : ∀ y ∈ l, y < 65536) (hv : ∀ j y, l[j]? = some y -> D.ent x.tab (x.frm + j) = (y : Nat)) :
    Calls Tryz.prog 145 #[.pointer (some ⟨d, 3, none⟩), shV x (.slice a n c)] w fun e w' => e = .returned (.string (wordsB l)) /\ Below w.heap.size w w' := by
  unfold shV
  have e1 := h.cellE ht
  have hdl := lt_of_block h.dev
  have hE := (h.ent x.tab ht).lt
  have ht' : (x.tab : Int) < 4 := by omega
  have hcell : ∀ j y, l[j]? = some y -> w.cell? ⟨E x.tab, x.frm + j, none⟩ = some (.int .i64 (y : Nat)) := fun j y hj => by
    have hjl : j < l.length := (List.getElem?_eq_some_iff.1 hj).1
    have := (h.ent x.tab ht).cell (i := x.frm + j) (j := 0) (by omega) (by omega)
    rw [Nat.mul_one, Nat.add_zero] at this
    rw [this, hv j y hj]
  have HC := hideF hcell
  have H16 := hideF h16
  have HL := hideF hl
  have b1 : (x.frm : Int) + (x.cnt : Int) <= (D.sz x.tab : Int) := by omega
  have b2 : (x.frm : Int) <= (x.frm : Int) + (x.cnt : Int) := by omega
  have b3 : x.frm + x.cnt <= 1000 := by omega
  clear h hcell h16 hl hv
  go_enter Tryz.func145, Tryz.ntmps145
  go_wp2_with fail
  go_quiet (fail)
  go_wp2_with fail
  all_goals
    refine (holdsBits_no x.tab _ ht2).mono ?_
    rintro e w1 ⟨rfl, rfl⟩
    go_wp2_with fail
  all_goals
    have hXb : Below w.heap.size w ((w.alloc (.cells #[.int .i64 (x.fn : Nat), .int .i64 (x.tab : Nat), .int .i64 (x.frm : Nat), .int .i64 (x.cnt : Nat), .int .i64 (x.into : Nat), .int .i64 (x.to : Nat), .int .i64 (x.many : Nat), .slice a n c] 144)).drewN nq) := below_drewN (bel_alloc (Below.refl _ _) _) _
    have HXb := hideF hXb
    refine (words_any l x.cnt _ (E x.tab) x.frm _ _ HL.out (by omega) H16.out (by simp; omega) (fun hp => by first | rfl | (exfalso; omega)) (fun j y hj => by rw [(bcell HXb.out).1 (E x.tab) _ hE]; exact HC.out j y hj)).mono ?_
    rintro e w2 ⟨rfl, hb2⟩
    have HB2 := hideF (bel_then HXb.out hb2)
    clear hXb hb2
    go_wp2
    go_ret
    exact ⟨rfl, HB2.out⟩
end Go.Proofs.YtcpldcojckhapaaGreat

set_option maxRecDepth 100000
namespace Go.Proofs.YtcpldcojckhapaaGreat
open Go.RowKit
theorem cells10 {W : World} {g : Nat} {t : TypeId} {a0 a1 a2 a3 a4 a5 a6 a7 a8 a9 : Value} (h : W.heap[g]? = some (.cells #[a0, a1, a2, a3, a4, a5, a6, a7, a8, a9] t (0, 0))) : W.cell? ⟨g, 0, none⟩ = some a0 /\ W.cell? ⟨g, 1, none⟩ = some a1 /\ W.cell? ⟨g, 2, none⟩ = some a2 /\ W.cell? ⟨g, 3, none⟩ = some a3 /\ W.cell? ⟨g, 4, none⟩ = some a4 /\ W.cell? ⟨g, 5, none⟩ = some a5 /\ W.cell? ⟨g, 6, none⟩ = some a6 /\ W.cell? ⟨g, 7, none⟩ = some a7 /\ W.cell? ⟨g, 8, none⟩ = some a8 /\ W.cell? ⟨g, 9, none⟩ = some a9 :=
  ⟨by rw [cell_of_row _ _ _ _ _ _ h]; rfl, by rw [cell_of_row _ _ _ _ _ _ h]; rfl, by rw [cell_of_row _ _ _ _ _ _ h]; rfl, by rw [cell_of_row _ _ _ _ _ _ h]; rfl, by rw [cell_of_row _ _ _ _ _ _ h]; rfl, by rw [cell_of_row _ _ _ _ _ _ h]; rfl, by rw [cell_of_row _ _ _ _ _ _ h]; rfl, by rw [cell_of_row _ _ _ _ _ _ h]; rfl, by rw [cell_of_row _ _ _ _ _ _ h]; rfl, by rw [cell_of_row _ _ _ _ _ _ h]; rfl⟩
def tellB (f : Nat) (l : List Nat) : ByteArray := ⟨#[UInt8.ofNat f, UInt8.ofNat (2 * l.length)]⟩ ++ wordsB l
theorem wordsB_size (l : List Nat) : (wordsB l).size = 2 * l.length := by
  have e : (wordsB l).size = (wordsI l).length := by simp [wordsB, bytesOf, ByteArray.size]
  rw [e, wordsI_len]
end Go.Proofs.YtcpldcojckhapaaGreat

set_option maxRecDepth 100000
namespace Go.Proofs.YtcpldcojckhapaaGreat
open Go.RowKit
end Go.Proofs.YtcpldcojckhapaaGreat

set_option maxRecDepth 100000
namespace Go.Proofs.YtcpldcojckhapaaGreat
open Go.RowKit
set_option maxRecDepth 100000 in
set_option maxHeartbeats 1000000 in
theorem unitAndBody_any (s : ByteArray) (w : World) (h1 : 1 <= s.size) (hs : s.size <= 4194304) :
    Calls Tryz.prog 137 #[.string s] w fun e w' => e = .returned (.agg #[.int .i64 0, .int .i64 (Pl.byt s 0 : Nat), .string (s.extract 1 s.size)]) /\ Below w.heap.size w w' := by
  have hp : 0 < s.size := h1
  have gb := Pl.get_byt s
  have hb0 := Pl.byt_lt s 0
  go_enter Tryz.func137, Tryz.ntmps137
  go_wp2_with fail
  go_region_with (go_at_call 76; refine (clone_any _ _ (by simp; omega)).mono ?_; rintro e w' ⟨rfl, hb⟩; obtain ⟨hc, hf⟩ := bcell hb)
  all_goals go_wp2
  all_goals
    have ew : IntKind.i64.wrap (Pl.byt s 0 : Int) = Pl.byt s 0 := by rw [IntKind.wrap_i64]; omega
    try simp only [ew]
    refine bodyPost_ret (v := .agg #[.int .i64 0, .int .i64 (Pl.byt s 0 : Nat), .string (s.extract 1 s.size)]) (by simp [results, Tryz.results137, go_sem, hc]) rfl ⟨rfl, ?_⟩
    exact (((((Below.refl _ _).alloc (Nat.le_refl _) _).drew.trans (hb.mono (by simp))).setCell (Nat.le_refl _) _).setCell (Nat.le_refl _) _).setCell (Nat.le_refl _) _
end Go.Proofs.YtcpldcojckhapaaGreat
