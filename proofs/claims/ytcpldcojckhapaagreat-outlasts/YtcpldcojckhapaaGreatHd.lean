/-
  The answers that wait: heap.down, for any heap.
-/
import Derived.Test.YtcpldcojckhapaaGreatJ28
set_option maxRecDepth 100000
namespace Go.Proofs.YtcpldcojckhapaaGreat
open Go.RowKit

abbrev Ans := Int × Int × ByteArray
def keyA (l : List Ans) (a : Nat) : Int := (l.getD a (0, 0, ⟨#[]⟩)).1
def pickJ (n i : Nat) (l : List Ans) : Nat := if 2 * i + 1 + 1 < n ∧ keyA l (2 * i + 1 + 1) < keyA l (2 * i + 1) then 2 * i + 1 + 1 else 2 * i + 1
def swapA (l : List Ans) (i j : Nat) : List Ans := (l.set i (l.getD j (0, 0, ⟨#[]⟩))).set j (l.getD i (0, 0, ⟨#[]⟩))
/-- What a heap comes to where one goes down from i. -/
inductive DownTo (n : Nat) : Nat → List Ans → List Ans → Prop
  | leaf {i : Nat} {l : List Ans} (h : n ≤ 2 * i + 1) : DownTo n i l l
  | stop {i : Nat} {l : List Ans} (h : 2 * i + 1 < n) (hk : ¬ keyA l (pickJ n i l) < keyA l i) : DownTo n i l l
  | step {i : Nat} {l r : List Ans} (h : 2 * i + 1 < n) (hk : keyA l (pickJ n i l) < keyA l i) (hr : DownTo n (pickJ n i l) (swapA l i (pickJ n i l)) r) : DownTo n i l r
theorem get_ans (l : List Ans) (i : Nat) (h : i < l.length) : l[i]? = some (l.getD i (0, 0, ⟨#[]⟩)) := by
  rw [List.getD_eq_getElem?_getD, List.getElem?_eq_getElem h]; rfl
theorem less_key {B : Nat} {v : Value} {l : List Ans} {w : World} (h : w.ownsRow B 163 3 v l.length (l.flatMap encF)) (i j : Nat) (hi : i < l.length) (hj : j < l.length) (b : Bool) (hb : decide (keyA l i < keyA l j) = b) :
    Calls Tryz.prog 194 #[v, .int .i64 (i : Nat), .int .i64 (j : Nat)] w fun e w' => e = .returned (.bool b) ∧ ∃ k, w' = w.drewN k :=
  hless_any B i j v l _ _ b w h (get_ans l i hi) (get_ans l j hj) hb
theorem less_int {B : Nat} {v : Value} {l : List Ans} {w : World} (h : w.ownsRow B 163 3 v l.length (l.flatMap encF)) (a c : Int) (i j : Nat) (ha : a = (i : Nat)) (hc : c = (j : Nat)) (hi : i < l.length) (hj : j < l.length) (b : Bool) (hb : decide (keyA l i < keyA l j) = b) :
    Calls Tryz.prog 194 #[v, .int .i64 a, .int .i64 c] w fun e w' => e = .returned (.bool b) ∧ ∃ k, w' = w.drewN k := by
  subst ha hc
  exact less_key h i j hi hj b hb
theorem swap_int {B g c : Nat} {l : List Ans} {w : World} (h : w.ownsRow B 163 3 (.slice (some ⟨g, 0, none⟩) l.length c) l.length (l.flatMap encF)) (a e : Int) (i j : Nat) (ha : a = (i : Nat)) (he : e = (j : Nat)) (hi : i < l.length) (hj : j < l.length) (hne : i ≠ j) :
    Calls Tryz.prog 195 #[.slice (some ⟨g, 0, none⟩) l.length c, .int .i64 a, .int .i64 e] w fun e w' => e = .returned (.tuple #[]) ∧ w'.ownsRow B 163 3 (.slice (some ⟨g, 0, none⟩) l.length c) l.length ((swapA l i j).flatMap encF) ∧ Chg1 g w w' := by
  subst ha he
  exact hswap_ne B i j g c l _ _ w h (get_ans l i hi) (get_ans l j hj) hne
theorem swapA_len (l : List Ans) (i j : Nat) : (swapA l i j).length = l.length := by simp [swapA]
set_option maxRecDepth 100000 in
set_option maxHeartbeats 2000000 in
theorem down_any {B : Nat} (d i0 n : Nat) (cur : Array Value) (wv : Value) (l : List Ans) (w : World) (h : WaitIn B w d cur wv l) (hn : n ≤ l.length) (hl : l.length ≤ 1000) (hi0 : i0 ≤ 1000) :
    Calls Tryz.prog 119 #[.iface 160 (.pointer (some ⟨d, 14, none⟩)), .int .i64 (i0 : Nat), .int .i64 (n : Nat)] w fun e w' => ∃ b r, e = .returned (.bool b) ∧ DownTo n i0 l r ∧ r.length = l.length ∧ WaitIn B w' d cur wv r ∧ FtT B wtT w w' := by
  have HH := hideF h
  clear h
  go_enter Tryz.func119, Tryz.ntmps119
  go_wp2_with fail
  go_loopw [7] (fun iv wr => ∃ (i : Nat) (l' : List Ans), i ≤ 1000 ∧ iv = .int .i64 (i : Nat) ∧ l'.length = l.length ∧ (∀ r, DownTo n i l' r → DownTo n i0 l r) ∧ WaitIn B wr d cur wv l' ∧ FtT B wtT w wr) (fun iv _ => n - (intOf iv).toNat)
  case atStart => exact ⟨i0, l, hi0, rfl, rfl, fun _ h => h, HH.out, FtT.refl _ _⟩
  case round =>
    obtain ⟨i, l', hi, rfl, hll, hdn, hw, hf⟩ := hrel
    have HDN := hideF hdn
    have HW := hideF hw
    have HF := hideF hf
    have c14 := hw.cell
    obtain ⟨av, cv, rfl, _⟩ := own_view hw.own
    have hnl : n ≤ l'.length := by omega
    have hle : l'.length ≤ 1000 := by omega
    have HLL := hideF hll
    clear hdn hw hf hll
    by_cases g1 : n ≤ 2 * i + 1
    · have g1' : (n : Int) ≤ 2 * (i : Int) + 1 := by omega
      go_wp2_with fail
      go_ret
      exact ⟨_, l', rfl, HDN.out _ (.leaf g1), HLL.out, HW.out, HF.out⟩
    · have g1' : decide ((n : Int) ≤ 2 * (i : Int) + 1) = false := by simp; omega
      have g2' : decide (2 * (i : Int) + 1 < 0) = false := by simp; omega
      have m1 := mthLess d _ cv av wr c14
      by_cases g3 : 2 * i + 1 + 1 < n
      · have g3' : 2 * (i : Int) + 1 + 1 < (n : Int) := by omega
        go_wp2_with fail
        cases b1 : decide (keyA l' (2 * i + 1 + 1) < keyA l' (2 * i + 1)) with
        | false =>
          have HL1 := hideF (less_int (w := wr) HW.out.own (2 * (i : Int) + 1 + 1) (2 * (i : Int) + 1) (2 * i + 1 + 1) (2 * i + 1) (by omega) (by omega) (by omega) (by omega) false b1)
          refine HL1.out.mono ?_
          rintro e W2 ⟨rfl, k2, hw2⟩
          have HW2 : Hid (WaitIn B W2 d cur (.slice av l'.length cv) l') := by rw [hw2]; exact HW.out.drewN k2
          have HF2 : Hid (FtT B wtT w W2) := by rw [hw2]; exact HF.out.drewN k2
          have m2 := mthLess d _ cv av W2 HW2.out.cell
          clear hw2 m1 c14
          have hj : pickJ n i l' = 2 * i + 1 := by unfold pickJ; rw [if_neg (fun h => by have := h.2; simp [this] at b1)]
          cases b2 : decide (keyA l' (2 * i + 1) < keyA l' i) with
          | false =>
            have HL2 := hideF (less_int (w := W2) HW2.out.own (2 * (i : Int) + 1) (i : Int) (2 * i + 1) i (by omega) rfl (by omega) (by omega) false b2)
            have HB2 : Hid (¬ keyA l' (pickJ n i l') < keyA l' i) := by rw [hj]; exact of_decide_eq_false b2
            clear b2 hj
            go_wp2_with fail
            refine HL2.out.mono ?_
            rintro e w3 ⟨rfl, k3, rfl⟩
            go_wp2_with fail
            go_ret
            exact ⟨_, l', rfl, HDN.out _ (.stop (by omega) (Int.not_lt.2 HB2.out)), HLL.out, HW2.out.drewN _, HF2.out.drewN _⟩
          | true =>
            have HL2 := hideF (less_int (w := W2) HW2.out.own (2 * (i : Int) + 1) (i : Int) (2 * i + 1) i (by omega) rfl (by omega) (by omega) true b2)
            have HB2 : Hid (keyA l' (pickJ n i l') < keyA l' i) := by show _ < _; rw [hj]; simpa using b2
            have HJ := hideF hj
            clear b2 hj
            go_wp2_with fail
            refine HL2.out.mono ?_
            rintro e w3 ⟨rfl, k3, hw3⟩
            have HW3 : Hid (WaitIn B w3 d cur (.slice av l'.length cv) l') := by rw [hw3]; exact HW2.out.drewN k3
            have HF3 : Hid (FtT B wtT w w3) := by rw [hw3]; exact HF2.out.drewN k3
            have c3 := HW3.out.cell
            obtain ⟨g3x, cx, hav, _, _, _, _⟩ := own_ans HW3.out.own (get_ans l' i (by omega))
            simp only [Value.slice.injEq, true_and] at hav
            obtain ⟨rfl, rfl⟩ := hav
            have m3 := mthSwap d _ cv _ w3 c3
            have HS3 := hideF (swap_int (w := w3) HW3.out.own (i : Int) (2 * (i : Int) + 1) i (2 * i + 1) rfl (by omega) (by omega) (by omega) (by omega))
            clear hw3
            go_wp2_with fail
            refine HS3.out.mono ?_
            rintro e w4 ⟨rfl, ho4, hc4⟩
            obtain ⟨hw4, hf4⟩ := HW3.out.swapped (swapA_len l' i (2 * i + 1)).symm ho4 hc4
            have HW4 := hideF hw4
            have HF4 := hideF (HF3.out.trans hf4)
            clear ho4 hc4 hw4 hf4 c3 m3 HS3
            go_wp2_with fail
            go_roundw
            case rel => exact ⟨2 * i + 1, swapA l' i (2 * i + 1), by omega, by go_num, by rw [swapA_len]; exact HLL.out, fun r hr => HDN.out _ (.step (by omega) HB2.out (by rw [HJ.out]; exact hr)), HW4.out, HF4.out⟩
            case measure => simp [intOf]; omega
        | true =>
          have HL1 := hideF (less_int (w := wr) HW.out.own (2 * (i : Int) + 1 + 1) (2 * (i : Int) + 1) (2 * i + 1 + 1) (2 * i + 1) (by omega) (by omega) (by omega) (by omega) true b1)
          refine HL1.out.mono ?_
          rintro e W2 ⟨rfl, k2, hw2⟩
          have HW2 : Hid (WaitIn B W2 d cur (.slice av l'.length cv) l') := by rw [hw2]; exact HW.out.drewN k2
          have HF2 : Hid (FtT B wtT w W2) := by rw [hw2]; exact HF.out.drewN k2
          have m2 := mthLess d _ cv av W2 HW2.out.cell
          clear hw2 m1 c14
          have hj : pickJ n i l' = 2 * i + 1 + 1 := by unfold pickJ; rw [if_pos ⟨g3, by simpa using b1⟩]
          cases b2 : decide (keyA l' (2 * i + 1 + 1) < keyA l' i) with
          | false =>
            have HL2 := hideF (less_int (w := W2) HW2.out.own (2 * (i : Int) + 1 + 1) (i : Int) (2 * i + 1 + 1) i (by omega) rfl (by omega) (by omega) false b2)
            have HB2 : Hid (¬ keyA l' (pickJ n i l') < keyA l' i) := by rw [hj]; exact of_decide_eq_false b2
            clear b2 hj
            go_wp2_with fail
            refine HL2.out.mono ?_
            rintro e w3 ⟨rfl, k3, rfl⟩
            go_wp2_with fail
            go_ret
            exact ⟨_, l', rfl, HDN.out _ (.stop (by omega) (Int.not_lt.2 HB2.out)), HLL.out, HW2.out.drewN _, HF2.out.drewN _⟩
          | true =>
            have HL2 := hideF (less_int (w := W2) HW2.out.own (2 * (i : Int) + 1 + 1) (i : Int) (2 * i + 1 + 1) i (by omega) rfl (by omega) (by omega) true b2)
            have HB2 : Hid (keyA l' (pickJ n i l') < keyA l' i) := by show _ < _; rw [hj]; simpa using b2
            have HJ := hideF hj
            clear b2 hj
            go_wp2_with fail
            refine HL2.out.mono ?_
            rintro e w3 ⟨rfl, k3, hw3⟩
            have HW3 : Hid (WaitIn B w3 d cur (.slice av l'.length cv) l') := by rw [hw3]; exact HW2.out.drewN k3
            have HF3 : Hid (FtT B wtT w w3) := by rw [hw3]; exact HF2.out.drewN k3
            have c3 := HW3.out.cell
            obtain ⟨g3x, cx, hav, _, _, _, _⟩ := own_ans HW3.out.own (get_ans l' i (by omega))
            simp only [Value.slice.injEq, true_and] at hav
            obtain ⟨rfl, rfl⟩ := hav
            have m3 := mthSwap d _ cv _ w3 c3
            have HS3 := hideF (swap_int (w := w3) HW3.out.own (i : Int) (2 * (i : Int) + 1 + 1) i (2 * i + 1 + 1) rfl (by omega) (by omega) (by omega) (by omega))
            clear hw3
            go_wp2_with fail
            refine HS3.out.mono ?_
            rintro e w4 ⟨rfl, ho4, hc4⟩
            obtain ⟨hw4, hf4⟩ := HW3.out.swapped (swapA_len l' i (2 * i + 1 + 1)).symm ho4 hc4
            have HW4 := hideF hw4
            have HF4 := hideF (HF3.out.trans hf4)
            clear ho4 hc4 hw4 hf4 c3 m3 HS3
            go_wp2_with fail
            go_roundw
            case rel => exact ⟨2 * i + 1 + 1, swapA l' i (2 * i + 1 + 1), by omega, by go_num, by rw [swapA_len]; exact HLL.out, fun r hr => HDN.out _ (.step (by omega) HB2.out (by rw [HJ.out]; exact hr)), HW4.out, HF4.out⟩
            case measure => simp [intOf]; omega
      · have g3' : decide (2 * (i : Int) + 1 + 1 < (n : Int)) = false := by simp; omega
        obtain ⟨W2, hW2⟩ : ∃ W2, W2 = wr := ⟨_, rfl⟩
        have HW2 : Hid (WaitIn B W2 d cur (.slice av l'.length cv) l') := by rw [hW2]; exact HW.out
        have HF2 : Hid (FtT B wtT w W2) := by rw [hW2]; exact HF.out
        have m2 := mthLess d _ cv av W2 HW2.out.cell
        rw [← hW2]
        clear hW2 m1 c14
        have hj : pickJ n i l' = 2 * i + 1 := by unfold pickJ; rw [if_neg (fun h => g3 h.1)]
        cases b2 : decide (keyA l' (2 * i + 1) < keyA l' i) with
        | false =>
          have HL2 := hideF (less_int (w := W2) HW2.out.own (2 * (i : Int) + 1) (i : Int) (2 * i + 1) i (by omega) rfl (by omega) (by omega) false b2)
          have HB2 : Hid (¬ keyA l' (pickJ n i l') < keyA l' i) := by rw [hj]; exact of_decide_eq_false b2
          clear b2 hj
          go_wp2_with fail
          refine HL2.out.mono ?_
          rintro e w3 ⟨rfl, k3, rfl⟩
          go_wp2_with fail
          go_ret
          exact ⟨_, l', rfl, HDN.out _ (.stop (by omega) (Int.not_lt.2 HB2.out)), HLL.out, HW2.out.drewN _, HF2.out.drewN _⟩
        | true =>
          have HL2 := hideF (less_int (w := W2) HW2.out.own (2 * (i : Int) + 1) (i : Int) (2 * i + 1) i (by omega) rfl (by omega) (by omega) true b2)
          have HB2 : Hid (keyA l' (pickJ n i l') < keyA l' i) := by show _ < _; rw [hj]; simpa using b2
          have HJ := hideF hj
          clear b2 hj
          go_wp2_with fail
          refine HL2.out.mono ?_
          rintro e w3 ⟨rfl, k3, hw3⟩
          have HW3 : Hid (WaitIn B w3 d cur (.slice av l'.length cv) l') := by rw [hw3]; exact HW2.out.drewN k3
          have HF3 : Hid (FtT B wtT w w3) := by rw [hw3]; exact HF2.out.drewN k3
          have c3 := HW3.out.cell
          obtain ⟨g3x, cx, hav, _, _, _, _⟩ := own_ans HW3.out.own (get_ans l' i (by omega))
          simp only [Value.slice.injEq, true_and] at hav
          obtain ⟨rfl, rfl⟩ := hav
          have m3 := mthSwap d _ cv _ w3 c3
          have HS3 := hideF (swap_int (w := w3) HW3.out.own (i : Int) (2 * (i : Int) + 1) i (2 * i + 1) rfl (by omega) (by omega) (by omega) (by omega))
          clear hw3
          go_wp2_with fail
          refine HS3.out.mono ?_
          rintro e w4 ⟨rfl, ho4, hc4⟩
          obtain ⟨hw4, hf4⟩ := HW3.out.swapped (swapA_len l' i (2 * i + 1)).symm ho4 hc4
          have HW4 := hideF hw4
          have HF4 := hideF (HF3.out.trans hf4)
          clear ho4 hc4 hw4 hf4 c3 m3 HS3
          go_wp2_with fail
          go_roundw
          case rel => exact ⟨2 * i + 1, swapA l' i (2 * i + 1), by omega, by go_num, by rw [swapA_len]; exact HLL.out, fun r hr => HDN.out _ (.step (by omega) HB2.out (by rw [HJ.out]; exact hr)), HW4.out, HF4.out⟩
          case measure => simp [intOf]; omega
end Go.Proofs.YtcpldcojckhapaaGreat
