/-
  The answers that wait: heap.Pop and sendAll, where at most two wait.
-/
import Derived.Test.YtcpldcojckhapaaGreatHs
set_option maxRecDepth 100000
namespace Go.Proofs.YtcpldcojckhapaaGreat
open Go.RowKit

set_option maxRecDepth 100000 in
set_option maxHeartbeats 1000000 in
theorem down_none (p : Value) (n : Int) (w : World) (hn : n ≤ 1) :
    Calls Tryz.prog 119 #[.iface 160 p, .int .i64 0, .int .i64 n] w fun e w' => e = .returned (.bool false) ∧ w' = w := by
  have h1 : decide ((1 : Int) ≥ n) = true := by simp; omega
  go_enter Tryz.func119, Tryz.ntmps119
  go_wp2_with fail
  go_loopw [7] (fun j wr => j = .int .i64 0 ∧ wr = w) (fun _ _ => 0)
  case atStart => exact ⟨rfl, rfl⟩
  case round =>
    obtain ⟨rfl, rfl⟩ := hrel
    go_wp2_with fail
    go_ret
    exact ⟨rfl, rfl⟩
theorem WaitIn.swapped {B : Nat} {w w' : World} {d g c : Nat} {cur : Array Value} {l l' : List (Int × Int × ByteArray)} (h : WaitIn B w d cur (.slice (some ⟨g, 0, none⟩) l.length c) l) (hl : l.length = l'.length) (ho : w'.ownsRow B 163 3 (.slice (some ⟨g, 0, none⟩) l.length c) l.length (l'.flatMap encF)) (hc : Chg1 g w w') :
    WaitIn B w' d cur (.slice (some ⟨g, 0, none⟩) l.length c) l' ∧ FtT B wtT w w' := by
  obtain ⟨cg, hcg⟩ := own_block h.own g rfl
  refine ⟨⟨(hc.block d (lt_of_block h.dev) (ne_of_types h.dev hcg (by decide))).trans h.dev, h.size, h.at14, by rw [← hl]; exact ho, h.lo⟩, ?_⟩
  exact ⟨hc.os, hc.tape, hc.output, hc.size, fun k cur' t hk ht => hc.block k (lt_of_block hk) (ne_of_types hk hcg (fun e => by rw [e] at ht; exact absurd ht (by decide))), fun k hkB hks => hc.block k hks (by have := (h.own.lt g rfl).1; omega)⟩

set_option maxRecDepth 100000 in
set_option maxHeartbeats 1000000 in
theorem heapPop_one {B : Nat} (d : Nat) (cur : Array Value) (wv : Value) (x : Int × Int × ByteArray) (w : World) (h : WaitIn B w d cur wv [x]) :
    Calls Tryz.prog 89 #[.iface 160 (.pointer (some ⟨d, 14, none⟩))] w fun e w' => ∃ v', e = .returned (.iface 163 (.agg #[.int .i64 x.1, .int .i64 x.2.1, .string x.2.2])) ∧ WaitIn B w' d (cur.setIfInBounds 14 v') v' [] ∧ FtT B wtT w w' := by
  obtain ⟨g, c, rfl, hg, _, _, _⟩ := own_ans h.own (i := 0) (x := x) rfl
  have c14 := h.cell
  have m1 := mthLen d _ c _ w c14
  have m2 := mthSwap d _ c _ w c14
  have HS := hideF (hswap_same B g c [x] x w h.own rfl)
  have HW := hideF h
  clear h
  go_enter Tryz.func89, Tryz.ntmps89
  go_wp2_with fail
  refine (hlen_any _ _ _ _).mono ?_
  rintro e w1 ⟨rfl, rfl⟩
  go_wp2_with fail
  refine HS.out.mono ?_
  rintro e w2 ⟨rfl, ho2, hc2⟩
  obtain ⟨hw2, hf2⟩ := HW.out.swapped rfl ho2 hc2
  have HW2 := hideF hw2
  have HF2 := hideF hf2
  clear ho2 hc2 hw2 hf2 m1 m2 c14
  go_wp2_with fail
  refine (down_none _ _ _ (by decide)).mono ?_
  rintro e w3 ⟨rfl, rfl⟩
  have m3 := mthPop (some ⟨d, 14, none⟩)
  go_wp2_with fail
  refine (hpopm_any d 0 cur _ [] x _ rfl (by omega) HW2.out).mono ?_
  rintro e w4 ⟨v', rfl, hw4, hf4⟩
  have HW4 := hideF hw4
  have HF4 := hideF (HF2.out.trans hf4)
  clear hw4 hf4
  go_wp2
  go_ret
  exact ⟨_, rfl, HW4.out, HF4.out⟩
set_option maxRecDepth 100000 in
set_option maxHeartbeats 1000000 in
theorem heapPop_two {B : Nat} (d : Nat) (cur : Array Value) (wv : Value) (x y : Int × Int × ByteArray) (w : World) (h : WaitIn B w d cur wv [x, y]) :
    Calls Tryz.prog 89 #[.iface 160 (.pointer (some ⟨d, 14, none⟩))] w fun e w' => ∃ v', e = .returned (.iface 163 (.agg #[.int .i64 x.1, .int .i64 x.2.1, .string x.2.2])) ∧ WaitIn B w' d (cur.setIfInBounds 14 v') v' [y] ∧ FtT B wtT w w' := by
  obtain ⟨g, c, rfl, hg, _, _, _⟩ := own_ans h.own (i := 0) (x := x) rfl
  have c14 := h.cell
  have m1 := mthLen d _ c _ w c14
  have m2 := mthSwap d _ c _ w c14
  have HS := hideF (hswap_ne B 0 1 g c [x, y] x y w h.own rfl rfl (by omega))
  have HW := hideF h
  clear h
  go_enter Tryz.func89, Tryz.ntmps89
  go_wp2_with fail
  refine (hlen_any _ _ _ _).mono ?_
  rintro e w1 ⟨rfl, rfl⟩
  go_wp2_with fail
  refine HS.out.mono ?_
  rintro e w2 ⟨rfl, ho2, hc2⟩
  obtain ⟨hw2, hf2⟩ := HW.out.swapped (l' := [y, x]) rfl ho2 hc2
  have HW2 := hideF hw2
  have HF2 := hideF hf2
  clear ho2 hc2 hw2 hf2 m1 m2 c14
  go_wp2_with fail
  refine (down_none _ _ _ (by decide)).mono ?_
  rintro e w3 ⟨rfl, rfl⟩
  have m3 := mthPop (some ⟨d, 14, none⟩)
  go_wp2_with fail
  refine (hpopm_any d 1 cur _ [y] x _ rfl (by omega) HW2.out).mono ?_
  rintro e w4 ⟨v', rfl, hw4, hf4⟩
  have HW4 := hideF hw4
  have HF4 := hideF (HF2.out.trans hf4)
  clear hw4 hf4
  go_wp2
  go_ret
  exact ⟨_, rfl, HW4.out, HF4.out⟩
end Go.Proofs.YtcpldcojckhapaaGreat
