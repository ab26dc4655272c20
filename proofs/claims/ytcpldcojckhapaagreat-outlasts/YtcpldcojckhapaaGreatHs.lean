/-
  The answers that wait: heap.Push of the one that came last.
-/
import Derived.Test.YtcpldcojckhapaaGreatHq
set_option maxRecDepth 100000
namespace Go.Proofs.YtcpldcojckhapaaGreat
open Go.RowKit

theorem own_short {w : World} {B g c n : Nat} {r : List (Int × Int × ByteArray)} {x : Int × Int × ByteArray} (h : w.ownsRow B 163 3 (.slice (some ⟨g, 0, none⟩) (r ++ [x]).length c) (r ++ [x]).length ((r ++ [x]).flatMap encF)) (hn : r.length = n) : w.ownsRow B 163 3 (.slice (some ⟨g, 0, none⟩) n c) r.length (r.flatMap encF) := by
  refine ⟨flat_len encF 3 (fun _ => rfl) r, ?_⟩
  rcases h.2 with ⟨he, _⟩ | ⟨g', cap, cur', hv, hb, hh, h1, h2, h3, h4⟩
  · simp at he
  · simp only [Value.slice.injEq, Option.some.injEq, Addr.mk.injEq, and_true, true_and] at hv
    obtain ⟨rfl, rfl⟩ := hv
    rw [List.length_append] at h1 h4
    refine .inr ⟨g, c, cur', by rw [hn], hb, hh, by omega, h2, h3, ?_⟩
    have e := congrArg (List.take (r.length * 3)) h4
    rw [List.take_take, Nat.min_eq_left (by omega), List.flatMap_append, List.take_append_of_le_length (by rw [flat_len encF 3 (fun _ => rfl) r]; omega)] at e
    rw [e, List.take_of_length_le (by rw [flat_len encF 3 (fun _ => rfl) r]; omega)]
set_option maxRecDepth 100000 in
set_option maxHeartbeats 1000000 in
theorem hpopm_any {B : Nat} (d n : Nat) (cur : Array Value) (wv : Value) (r : List (Int × Int × ByteArray)) (x : Int × Int × ByteArray) (w : World) (hn : r.length = n) (hl : n ≤ 1000) (h : WaitIn B w d cur wv (r ++ [x])) :
    Calls Tryz.prog 196 #[.pointer (some ⟨d, 14, none⟩)] w fun e w' => ∃ v', e = .returned (.iface 163 (.agg #[.int .i64 x.1, .int .i64 x.2.1, .string x.2.2])) ∧ WaitIn B w' d (cur.setIfInBounds 14 v') v' r ∧ FtT B wtT w w' := by
  have c14 := h.cell
  have f14 := h.fz
  have hdl := lt_of_block h.dev
  obtain ⟨g, c, rfl, hg, a0, a1, a2⟩ := own_ans h.own (i := n) (x := x) (by rw [← hn]; simp)
  have hz : (r ++ [x]).length = n + 1 := by rw [List.length_append, hn]; rfl
  have hcn : n + 1 ≤ c := by
    rcases h.own.2 with ⟨he, _⟩ | ⟨g', cap, cur', hv, hb, hh, h1, h2, h3, h4⟩
    · simp at he
    · simp only [Value.slice.injEq] at hv
      omega
  rw [hz] at c14
  have HW := hideF h
  have HS := hideF (own_short h.own hn)
  clear h hn hz
  go_enter Tryz.func196, Tryz.ntmps196
  go_wp2_with fail
  go_ret
  refine ⟨_, rfl, (WaitIn.set HW.out.dev HW.out.size HW.out.lo HS.out).below (bel_alloc (Below.refl _ _) _), ?_⟩
  exact ((FtT.refl wtT w).setCell HW.out.dev rfl HW.out.lo _ _).alloc _

theorem mrow (nm : String) (f : FuncId) (h : ((Tryz.prog.info? 160).bind fun I => (I.methods.find? (·.name == nm)).map fun m => (m.path.toList.isEmpty, m.func)) = some (true, some (f, false))) (p : Addr) (v : Value) (W : World) (hl : (loadVar 108 p).run Tryz.prog W = .ok v W) :
    (method 372 160 (.pointer (some p)) nm).run Tryz.prog W = .ok (f, v) W := by
  obtain ⟨I, hI, hm⟩ := Option.bind_eq_some_iff.1 h
  obtain ⟨m, hm1, hm2⟩ := Option.map_eq_some_iff.1 hm
  obtain ⟨hp, hf⟩ := Prod.mk.inj hm2
  have hp' : m.path.toList = [] := List.isEmpty_iff.1 hp
  have hp2 : m.path = #[] := Array.toList_eq_nil_iff.1 hp'
  have hu := run_underlying (P := Tryz.prog) Tryz.underlying160 W
  have hw : ∀ s : String, (Builtin.ssaWrapNilChk_ #[160] 160 #[.pointer (some p), strVal "", strVal s]).run Tryz.prog W = .ok (.pointer (some p)) W := fun s => rfl
  unfold method
  simp [typeInfo, hI, hm1, hp2, follow, hf, receiverAt, hu, Place.get, hw, asAddr, hl, Result.andThen]
theorem mrowAt (nm : String) (f : FuncId) (h : ((Tryz.prog.info? 160).bind fun I => (I.methods.find? (·.name == nm)).map fun m => (m.path.toList.isEmpty, m.func)) = some (true, some (f, false))) (d n c : Nat) (a : Option Addr) (W : World) (hc : W.cell? ⟨d, 14, none⟩ = some (.slice a n c)) :
    (method 372 160 (.pointer (some ⟨d, 14, none⟩)) nm).run Tryz.prog W = .ok (f, .slice a n c) W := mrow nm f h _ _ W (by simp [go_sem, loadVar, hc])
theorem mthLen (d n c : Nat) (a : Option Addr) (W : World) (hc : W.cell? ⟨d, 14, none⟩ = some (.slice a n c)) : (method 372 160 (.pointer (some ⟨d, 14, none⟩)) "Len").run Tryz.prog W = .ok (88, .slice a n c) W := mrowAt "Len" 88 (by kernel_rfl) d n c a W hc
theorem mthLess (d n c : Nat) (a : Option Addr) (W : World) (hc : W.cell? ⟨d, 14, none⟩ = some (.slice a n c)) : (method 372 160 (.pointer (some ⟨d, 14, none⟩)) "Less").run Tryz.prog W = .ok (194, .slice a n c) W := mrowAt "Less" 194 (by kernel_rfl) d n c a W hc
theorem mthSwap (d n c : Nat) (a : Option Addr) (W : World) (hc : W.cell? ⟨d, 14, none⟩ = some (.slice a n c)) : (method 372 160 (.pointer (some ⟨d, 14, none⟩)) "Swap").run Tryz.prog W = .ok (195, .slice a n c) W := mrowAt "Swap" 195 (by kernel_rfl) d n c a W hc
theorem mthPush (p : Option Addr) (W : World) : (method 372 160 (.pointer p) "Push").run Tryz.prog W = .ok (197, .pointer p) W := by kernel_rfl
theorem mthPop (p : Option Addr) (W : World) : (method 372 160 (.pointer p) "Pop").run Tryz.prog W = .ok (196, .pointer p) W := by kernel_rfl

set_option maxRecDepth 100000 in
set_option maxHeartbeats 1000000 in
theorem up_zero (d n c : Nat) (a : Option Addr) (w : World) (_h : w.cell? ⟨d, 14, none⟩ = some (.slice a n c)) :
    Calls Tryz.prog 169 #[.iface 160 (.pointer (some ⟨d, 14, none⟩)), .int .i64 0] w fun e w' => e = .returned (.tuple #[]) ∧ w' = w := by
  go_enter Tryz.func169, Tryz.ntmps169
  go_wp2_with fail
  go_loopw [1] (fun j wr => j = .int .i64 0 ∧ wr = w) (fun _ _ => 0)
  case atStart => exact ⟨rfl, rfl⟩
  case round =>
    obtain ⟨rfl, rfl⟩ := hrel
    go_wp2_with fail
    go_end0
    exact ⟨rfl, rfl⟩
set_option maxRecDepth 100000 in
set_option maxHeartbeats 1000000 in
theorem up_pos (d m B : Nat) (v : Value) (l : List (Int × Int × ByteArray)) (x y : Int × Int × ByteArray) (w : World) (hc : w.cell? ⟨d, 14, none⟩ = some v) (h : w.ownsRow B 163 3 v l.length (l.flatMap encF)) (hx : l[m + 1]? = some x) (hy : l[m / 2]? = some y) (hb : decide (x.1 < y.1) = false) (hm : m ≤ 100000) :
    Calls Tryz.prog 169 #[.iface 160 (.pointer (some ⟨d, 14, none⟩)), .int .i64 ((m : Int) + 1)] w fun e w' => e = .returned (.tuple #[]) ∧ ∃ k, w' = w.drewN k := by
  have hL := hless_any B (m + 1) (m / 2) v l x y false w h hx hy hb
  obtain ⟨a, c, rfl, _⟩ := own_view h
  have m1 := mthLess d l.length c a w hc
  have ne : ((m : Int) / 2 == (m : Int) + 1) = false := by rw [beq_eq_false_iff_ne]; omega
  have e1 : ((m + 1 : Nat) : Int) = (m : Int) + 1 := by omega
  have e2 : ((m / 2 : Nat) : Int) = (m : Int) / 2 := by omega
  rw [e1, e2] at hL
  have HL := hideF hL
  clear hL hx hy hb h e1 e2
  go_enter Tryz.func169, Tryz.ntmps169
  go_wp2_with fail
  go_loopw [1] (fun j wr => j = .int .i64 ((m : Int) + 1) ∧ wr = w) (fun _ _ => 0)
  case atStart => exact ⟨rfl, rfl⟩
  case round =>
    obtain ⟨rfl, rfl⟩ := hrel
    go_wp2_with fail
    refine HL.out.mono ?_
    rintro e w1 ⟨rfl, k, rfl⟩
    go_wp2_with fail
    go_end0
    exact ⟨rfl, k, rfl⟩

theorem up_last {B : Nat} (d : Nat) (cur : Array Value) (v : Value) (l : List (Int × Int × ByteArray)) (x : Int × Int × ByteArray) (w : World) (hl : l.length ≤ 1000) (h : WaitIn B w d cur v (l ++ [x])) (hx : ∀ y ∈ l, y.1 < x.1) :
    Calls Tryz.prog 169 #[.iface 160 (.pointer (some ⟨d, 14, none⟩)), .int .i64 (l.length : Nat)] w fun e w' => e = .returned (.tuple #[]) ∧ ∃ k, w' = w.drewN k := by
  cases hn : l.length with
  | zero =>
    obtain ⟨a, c, rfl, _⟩ := own_view h.own
    exact (up_zero d _ c a w h.cell).mono fun e w' h => ⟨h.1, 0, h.2⟩
  | succ m =>
    have h1 : (l ++ [x])[m + 1]? = some x := by rw [← hn]; simp
    have h2 : (l ++ [x])[m / 2]? = some l[m / 2] := by rw [List.getElem?_append_left (by omega)]; exact List.getElem?_eq_getElem (by omega)
    have h3 := hx l[m / 2] (List.getElem_mem (by omega))
    have := up_pos d m B v (l ++ [x]) x _ w h.cell h.own h1 h2 (by simp; omega) (by omega)
    rwa [show ((m + 1 : Nat) : Int) = (m : Int) + 1 by omega]
theorem WaitIn.drewN {B : Nat} {w : World} {d : Nat} {cur : Array Value} {wv : Value} {l : List (Int × Int × ByteArray)} (h : WaitIn B w d cur wv l) (k : Nat) : WaitIn B (w.drewN k) d cur wv l := h.below (below_drewN (Below.refl _ _) _)
set_option maxRecDepth 100000 in
set_option maxHeartbeats 1000000 in
theorem heapPush_any {B : Nat} (d : Nat) (cur : Array Value) (wv : Value) (l : List (Int × Int × ByteArray)) (x : Int × Int × ByteArray) (w : World) (hl : l.length ≤ 1000) (h : WaitIn B w d cur wv l) (hx : ∀ y ∈ l, y.1 < x.1) :
    Calls Tryz.prog 146 #[.iface 160 (.pointer (some ⟨d, 14, none⟩)), .iface 163 (.agg #[.int .i64 x.1, .int .i64 x.2.1, .string x.2.2])] w fun e w' => ∃ v', e = .returned (.tuple #[]) ∧ WaitIn B w' d (cur.setIfInBounds 14 v') v' (l ++ [x]) ∧ FtT B wtT w w' := by
  have m1 := mthPush (some ⟨d, 14, none⟩)
  have HX := hideF hx
  have HW := hideF h
  clear hx h
  go_enter Tryz.func146, Tryz.ntmps146
  go_wp2_with fail
  refine (hpush_any d cur wv l x w hl HW.out).mono ?_
  rintro e w1 ⟨v', rfl, hw1, hf1⟩
  obtain ⟨a, c, hv', _⟩ := own_view hw1.own
  rw [List.length_append] at hv'
  have c14 := hw1.cell
  have HW1 := hideF hw1
  have HF1 := hideF hf1
  clear hw1 hf1
  subst hv'
  have m2 := mthLen d _ c a w1 c14
  go_wp2_with fail
  refine (hlen_any _ _ _ _).mono ?_
  rintro e w2 ⟨rfl, rfl⟩
  go_wp2_with fail
  refine (up_last d _ _ l x _ hl HW1.out HX.out).mono ?_
  rintro e w3 ⟨rfl, k, rfl⟩
  go_wp2
  go_end0
  exact ⟨_, rfl, HW1.out.drewN k, HF1.out.drewN k⟩
set_option maxRecDepth 100000 in
set_option maxHeartbeats 1000000 in
theorem hadd_any {B : Nat} (d : Nat) (cur : Array Value) (wv : Value) (l : List (Int × Int × ByteArray)) (x : Int × Int × ByteArray) (w : World) (hl : l.length ≤ 1000) (h : WaitIn B w d cur wv l) (hx : ∀ y ∈ l, y.1 < x.1) :
    Calls Tryz.prog 117 #[.pointer (some ⟨d, 14, none⟩), .agg #[.int .i64 x.1, .int .i64 x.2.1, .string x.2.2]] w fun e w' => ∃ v', e = .returned (.tuple #[]) ∧ WaitIn B w' d (cur.setIfInBounds 14 v') v' (l ++ [x]) ∧ FtT B wtT w w' := by
  have HW := hideF (h.below (bel_alloc (Below.refl _ _) (.cells #[.int .i64 x.1, .int .i64 x.2.1, .string x.2.2] 163)))
  have HF := hideF ((FtT.refl (B := B) wtT w).alloc (.cells #[.int .i64 x.1, .int .i64 x.2.1, .string x.2.2] 163))
  have HX := hideF hx
  clear hx h
  go_enter Tryz.func117, Tryz.ntmps117
  go_wp2_with fail
  refine (heapPush_any d cur wv l x _ hl HW.out HX.out).mono ?_
  rintro e w1 ⟨v', rfl, hw1, hf1⟩
  have HW1 := hideF hw1
  have HF1 := hideF (HF.out.trans hf1)
  clear hw1 hf1
  go_wp2
  go_end0
  exact ⟨_, rfl, HW1.out, HF1.out⟩
end Go.Proofs.YtcpldcojckhapaaGreat
