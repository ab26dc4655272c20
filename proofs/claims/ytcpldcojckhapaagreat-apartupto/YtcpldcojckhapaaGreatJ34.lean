/-
  
-/
import Derived.Test.YtcpldcojckhapaaGreatJ33
import Derived.Test.YtcpldcojckhapaaGreatJ28
set_option maxRecDepth 100000
namespace Go.Proofs.YtcpldcojckhapaaGreat
open Go.RowKit
set_option maxRecDepth 100000 in
set_option maxHeartbeats 1000000 in
theorem asksAll_no (L o : Nat) (u : Int) (w : World) (h : w.cell? ⟨L, o, none⟩ = some (.int .i64 0)) : Calls Tryz.prog 78 #[.pointer (some ⟨L, o, none⟩), .int .i64 u] w fun e w' => e = .returned (.bool false) /\ w' = w := by
  go_enter Tryz.func78, Tryz.ntmps78
  go_wp2
  go_ret
  exact ⟨rfl, rfl⟩
set_option maxRecDepth 100000 in
set_option maxHeartbeats 2000000 in
theorem take_other (d L S i m u : Nat) (E : Nat -> Nat) (wv : Value) (D : Dev) (s : ByteArray) (w : World) (h : DevIn w d L S E wv D) (hi : i < D.nl) (hk : (D.ln i).kind = 0) (hu : u ≠ D.unit) :
    Calls Tryz.prog 57 #[.pointer (some ⟨d, 0, none⟩), .int .i64 (i : Nat), .agg #[.int .i64 (m : Nat), .int .i64 (u : Nat), .string s]] w fun e w' => e = .returned (.slice none 0 0) /\ Below w.heap.size w w' := by
  obtain ⟨c0, c1, c2, c11, c12, c13, c14, cf, hdl⟩ := h.cells
  obtain ⟨W, hW⟩ : ∃ W, W = w.alloc (.cells #[.int .i64 (m : Nat), .int .i64 (u : Nat), .string s] 94) := ⟨_, rfl⟩
  have hWb : Below w.heap.size w W := by rw [hW]; exact bel_alloc (Below.refl _ _) _
  have hWg : W.heap[w.heap.size]? = some (.cells #[.int .i64 (m : Nat), .int .i64 (u : Nat), .string s] 94 (0, 0)) := by rw [hW]; exact heap_alloc_new w _
  have hWl : W.heap.size = w.heap.size + 1 := by rw [hW]; simp
  have HH := hideF h
  have HWb := hideF hWb
  have HWg := hideF hWg
  have huI : ((u : Int) == (D.unit : Int)) = false := by rw [beq_eq_false_iff_ne]; omega
  have hune : ((u : Int) != (D.unit : Int)) = true := by simp [bne, huI]
  have hiI : (i : Int) < (D.nl : Int) := by omega
  have HK := hideF hk
  clear h hWb hWg hu hk
  go_enter Tryz.func57, Tryz.ntmps57
  go_wp2_with fail
  rw [<- hW]
  clear hW
  refine (newRequest_any s W).mono ?_
  rintro e w1 ⟨x, v, k, rfl, hown, hsh, hlen, hb⟩
  unfold reqV
  obtain ⟨av, cv, rfl, _⟩ := own_view hown
  obtain ⟨X, hX⟩ : ∃ X, X = w1.alloc (.cells #[.string s, .int .i64 (x.fn : Nat), .int .i64 (x.tab : Nat), .int .i64 (x.frm : Nat), .int .i64 (x.cnt : Nat), .int .i64 (x.into : Nat), .int .i64 (x.to : Nat), .int .i64 (x.many : Nat), .slice av x.vals.length cv, .int .u8 (k : Nat)] 146) := ⟨_, rfl⟩
  have hX1 : Below w1.heap.size w1 X := by rw [hX]; exact bel_alloc (Below.refl _ _) _
  have hXb : Below w.heap.size w X := bel_then (bel_then HWb.out hb) hX1
  have hXg : X.heap[w.heap.size]? = some (.cells #[.int .i64 (m : Nat), .int .i64 (u : Nat), .string s] 94 (0, 0)) := (hX1.block _ (by have := hb.size; omega)).trans ((hb.block _ (by omega)).trans HWg.out)
  have HXb := hideF hXb
  have HD := hideF (HH.out.belowQ hXb)
  clear c0 c1 c2 c11 c12 c13 c14 cf hown hsh hb hX1
  obtain ⟨c0, c1, c2, c11, c12, c13, c14, cf, hdX⟩ := HD.out.cells
  obtain ⟨g0, g1, g2, gf⟩ := cells3f hXg
  have hlc : X.cell? ⟨L, i * 3, none⟩ = some (.int .i64 0) := by
    have := HD.out.lines.cell hi (j := 0) (by omega)
    rw [Nat.add_zero] at this
    rw [this]; simp [lnc, HK.out]
  clear hXb hXg
  go_wp2_with fail
  rw [<- hX]
  clear hX
  go_quiet (first | (go_at_call 78; refine Calls.quiet_of_same (asksAll_no _ _ _ _ (by simpa using hlc))))
  go_wp2
  go_ret
  exact ⟨rfl, below_drewN HXb.out _⟩
set_option maxRecDepth 100000 in
set_option maxHeartbeats 1000000 in
theorem hear_broken (L o : Nat) (s : ByteArray) (w : World) (h0 : w.cell? ⟨L, o, none⟩ = some (.int .i64 0)) (h2 : w.cell? ⟨L, o + 2, none⟩ = some (.bool true)) :
    Calls Tryz.prog 56 #[.pointer (some ⟨L, o, none⟩), .string s] w fun e w' => e = .returned (.slice none 0 0) /\ w' = w := by
  go_enter Tryz.func56, Tryz.ntmps56
  go_wp2
  go_ret
  exact ⟨rfl, rfl⟩
theorem enterClone (x : Value) (w : World) : (callFunc 76 #[x]).run Tryz.prog w = .ok (.enter 76 #[x]) w := by kernel_rfl
def collB (b s : ByteArray) : ByteArray := b ++ s.extract 0 (min s.size (257 - b.size))
set_option maxRecDepth 100000 in
set_option maxHeartbeats 2000000 in
theorem collect_any (L i n : Nat) (ln : Nat -> Ln) (s : ByteArray) (w : World) (hG : Grid w L 116 n 3 (fun a j => lnc (ln a) j)) (hi : i < n) (hz : (ln i).bytes.size <= 257) (hs : s.size <= 4194304) :
    Calls Tryz.prog 74 #[.pointer (some ⟨L, i * 3, none⟩), .string s] w fun e w' => e = .returned (.tuple #[]) /\ Grid w' L 116 n 3 (fun a j => lnc (if a = i then { ln i with bytes := collB (ln i).bytes s } else ln a) j) /\ Chg1 L w w' := by
  have c1 : w.cell? ⟨L, i * 3 + 1, none⟩ = some (.string (ln i).bytes) := by have := hG.cell hi (j := 1) (by omega); rw [this]; simp [lnc]
  have hL := hG.lt
  obtain ⟨A, hA⟩ : ∃ A, A = (ln i).bytes := ⟨_, rfl⟩
  rw [<- hA] at c1 hz ⊢
  obtain ⟨kk, hkk⟩ : ∃ kk : Nat, kk = min s.size (257 - A.size) := ⟨_, rfl⟩
  have hkI : min (s.size : Int) (257 - (A.size : Int)) = (kk : Int) := by omega
  have hks : (kk : Int) <= (s.size : Int) := by omega
  have hk2 : kk <= 257 := by omega
  have HG := hideF hG
  have HA := hideF hA
  have HKK := hideF hkk
  have hfz := hG.frozen (i * 3 + 1)
  have hze : (s.extract 0 kk).size <= 257 := by rw [ByteArray.size_extract]; omega
  have hlim : ¬ 9223372036854775807 < A.size + min kk s.size := by omega
  clear hG hA hkk
  go_enter Tryz.func74, Tryz.ntmps74
  go_wp2_with fail
  clear hkI
  have HCL : Hid (Calls Tryz.prog 76 #[.string (A ++ s.extract 0 kk)] w.drew fun e w' => ∃ v, e = .returned v /\ (v = .string (A ++ s.extract 0 kk) /\ Below w.drew.heap.size w.drew w')) := (clone_any (A ++ s.extract 0 kk) w.drew (by rw [ByteArray.size_append]; omega)).mono fun e w' h => ⟨_, h.1, rfl, h.2⟩
  go_region_law (first
    | (refine step_call rfl 76 #[.tmp 22] #[9] rfl #[.string (A ++ s.extract 0 kk)] (by simp [Act.eval, Act.put]) (enterClone _ _) _ HCL.out ?_; rintro vv w2 ⟨rfl, hb2⟩; have hb2' := below_then_drew1 hb2; have e1 : w2.cell? ⟨L, i * 3 + 1, none⟩ = some (.string A) := ((bcell hb2').1 L _ hL).trans c1; have HG2 := hideF (HG.out.below hb2' hL); have f1 := HG2.out.frozen (i * 3 + 1)))
  all_goals
    go_end0
    refine ⟨rfl, ?_, ((Chg1.of_below L hb2').setCell _ _)⟩
    have g1 := line_set (x := { ln i with bytes := collB A s }) (v := .string (A ++ s.extract 0 kk)) HG2.out hi (j := 1) (by omega) (by simp [lnc, collB, HKK.out]) (fun b hb hne => by
      rcases (show b = 0 ∨ b = 2 by omega) with rfl | rfl <;> rfl)
    exact g1
end Go.Proofs.YtcpldcojckhapaaGreat

set_option maxRecDepth 100000
namespace Go.Proofs.YtcpldcojckhapaaGreat
open Go.RowKit
abbrev Ans := Int × Int × ByteArray
def keyA (l : List Ans) (a : Nat) : Int := (l.getD a (0, 0, ⟨#[]⟩)).1
def pickJ (n i : Nat) (l : List Ans) : Nat := if 2 * i + 1 + 1 < n /\ keyA l (2 * i + 1 + 1) < keyA l (2 * i + 1) then 2 * i + 1 + 1 else 2 * i + 1
def swapA (l : List Ans) (i j : Nat) : List Ans := (l.set i (l.getD j (0, 0, ⟨#[]⟩))).set j (l.getD i (0, 0, ⟨#[]⟩))
inductive DownTo (n : Nat) : Nat -> List Ans -> List Ans -> Prop
  | leaf {i : Nat} {l : List Ans} (h : n <= 2 * i + 1) : DownTo n i l l
  | stop {i : Nat} {l : List Ans} (h : 2 * i + 1 < n) (hk : ¬ keyA l (pickJ n i l) < keyA l i) : DownTo n i l l
  | step {i : Nat} {l r : List Ans} (h : 2 * i + 1 < n) (hk : keyA l (pickJ n i l) < keyA l i) (hr : DownTo n (pickJ n i l) (swapA l i (pickJ n i l)) r) : DownTo n i l r
theorem get_ans (l : List Ans) (i : Nat) (h : i < l.length) : l[i]? = some (l.getD i (0, 0, ⟨#[]⟩)) := by
  rw [List.getD_eq_getElem?_getD, List.getElem?_eq_getElem h]; rfl
theorem less_key {B : Nat} {v : Value} {l : List Ans} {w : World} (h : w.ownsRow B 163 3 v l.length (l.flatMap encF)) (i j : Nat) (hi : i < l.length) (hj : j < l.length) (b : Bool) (hb : decide (keyA l i < keyA l j) = b) :
    Calls Tryz.prog 194 #[v, .int .i64 (i : Nat), .int .i64 (j : Nat)] w fun e w' => e = .returned (.bool b) /\ ∃ k, w' = w.drewN k :=
  hless_any B i j v l _ _ b w h (get_ans l i hi) (get_ans l j hj) hb
theorem less_int {B : Nat} {v : Value} {l : List Ans} {w : World} (h : w.ownsRow B 163 3 v l.length (l.flatMap encF)) (a c : Int) (i j : Nat) (ha : a = (i : Nat)) (hc : c = (j : Nat)) (hi : i < l.length) (hj : j < l.length) (b : Bool) (hb : decide (keyA l i < keyA l j) = b) :
    Calls Tryz.prog 194 #[v, .int .i64 a, .int .i64 c] w fun e w' => e = .returned (.bool b) /\ ∃ k, w' = w.drewN k := by
  subst ha hc
  exact less_key h i j hi hj b hb
theorem swap_int {B g c : Nat} {l : List Ans} {w : World} (h : w.ownsRow B 163 3 (.slice (some ⟨g, 0, none⟩) l.length c) l.length (l.flatMap encF)) (a e : Int) (i j : Nat) (ha : a = (i : Nat)) (he : e = (j : Nat)) (hi : i < l.length) (hj : j < l.length) (hne : i ≠ j) :
    Calls Tryz.prog 195 #[.slice (some ⟨g, 0, none⟩) l.length c, .int .i64 a, .int .i64 e] w fun e w' => e = .returned (.tuple #[]) /\ w'.ownsRow B 163 3 (.slice (some ⟨g, 0, none⟩) l.length c) l.length ((swapA l i j).flatMap encF) /\ Chg1 g w w' := by
  subst ha he
  exact hswap_ne B i j g c l _ _ w h (get_ans l i hi) (get_ans l j hj) hne
theorem swapA_len (l : List Ans) (i j : Nat) : (swapA l i j).length = l.length := by simp [swapA]
set_option maxRecDepth 100000 in
set_option maxHeartbeats 2000000 in
theorem down_any {B : Nat} (d i0 n : Nat) (cur : Array Value) (wv : Value) (l : List Ans) (w : World) (h : WaitIn B w d cur wv l) (hn : n <= l.length) (hl : l.length <= 1000) (hi0 : i0 <= 1000) :
    Calls Tryz.prog 119 #[.iface 160 (.pointer (some ⟨d, 14, none⟩)), .int .i64 (i0 : Nat), .int .i64 (n : Nat)] w fun e w' => ∃ b r, e = .returned (.bool b) /\ DownTo n i0 l r /\ r.length = l.length /\ WaitIn B w' d cur wv r /\ FtT B (wtT d) w w' := by
  have HH := hideF h
  clear h
  go_enter Tryz.func119, Tryz.ntmps119
  go_wp2_with fail
  go_loopw [7] (fun iv wr => ∃ (i : Nat) (l' : List Ans), i <= 1000 /\ iv = .int .i64 (i : Nat) /\ l'.length = l.length /\ (∀ r, DownTo n i l' r -> DownTo n i0 l r) /\ WaitIn B wr d cur wv l' /\ FtT B (wtT d) w wr) (fun iv _ => n - (intOf iv).toNat)
  case atStart => exact ⟨i0, l, hi0, rfl, rfl, fun _ h => h, HH.out, FtT.refl _ _⟩
  case round =>
    obtain ⟨i, l', hi, rfl, hll, hdn, hw, hf⟩ := hrel
    have HDN := hideF hdn
    have HW := hideF hw
    have HF := hideF hf
    have c14 := hw.cell
    obtain ⟨av, cv, rfl, _⟩ := own_view hw.own
    have hnl : n <= l'.length := by omega
    have hle : l'.length <= 1000 := by omega
    have HLL := hideF hll
    clear hdn hw hf hll
    by_cases g1 : n <= 2 * i + 1
    . have g1' : (n : Int) <= 2 * (i : Int) + 1 := by omega
      go_wp2_with fail
      go_ret
      exact ⟨_, l', rfl, HDN.out _ (.leaf g1), HLL.out, HW.out, HF.out⟩
    . have g1' : decide ((n : Int) <= 2 * (i : Int) + 1) = false := by simp; omega
      have g2' : decide (2 * (i : Int) + 1 < 0) = false := by simp; omega
      have m1 := mthLess d _ cv av wr c14
      by_cases g3 : 2 * i + 1 + 1 < n
      . have g3' : 2 * (i : Int) + 1 + 1 < (n : Int) := by omega
        go_wp2_with fail
        cases b1 : decide (keyA l' (2 * i + 1 + 1) < keyA l' (2 * i + 1)) with
        | false =>
          have HL1 := hideF (less_int (w := wr) HW.out.own (2 * (i : Int) + 1 + 1) (2 * (i : Int) + 1) (2 * i + 1 + 1) (2 * i + 1) (by omega) (by omega) (by omega) (by omega) false b1)
          refine HL1.out.mono ?_
          rintro e W2 ⟨rfl, k2, hw2⟩
          have HW2 : Hid (WaitIn B W2 d cur (.slice av l'.length cv) l') := by rw [hw2]; exact HW.out.drewN k2
          have HF2 : Hid (FtT B (wtT d) w W2) := by rw [hw2]; exact HF.out.drewN k2
          have m2 := mthLess d _ cv av W2 HW2.out.cell
          clear hw2 m1 c14
          have hj : pickJ n i l' = 2 * i + 1 := by unfold pickJ; rw [if_neg (fun h => by have := h.2; simp [this] at b1)]
          cases b2 : decide (keyA l' (2 * i + 1) < keyA l' i) with
          | false =>
            have HL2 := hideF (less_int (w := W2) HW2.out.own (2 * (i : Int) + 1) (i : Int) (2 * i + 1) i (by omega) rfl (by omega) (by omega) false b2)
            have HB2 : Hid (¬ keyA l' (pickJ n i l') < keyA l' i) := by rw [hj]; exact of_decide_eq_false b2
            clear b2 hj
            go_wp2_with fail
            refine HL2.out.mono ?_
            rintro e w3 ⟨rfl, k3, rfl⟩
            go_wp2_with fail
            go_ret
            exact ⟨_, l', rfl, HDN.out _ (.stop (by omega) (Int.not_lt.2 HB2.out)), HLL.out, HW2.out.drewN _, HF2.out.drewN _⟩
          | true =>
            have HL2 := hideF (less_int (w := W2) HW2.out.own (2 * (i : Int) + 1) (i : Int) (2 * i + 1) i (by omega) rfl (by omega) (by omega) true b2)
            have HB2 : Hid (keyA l' (pickJ n i l') < keyA l' i) := by show _ < _; rw [hj]; simpa using b2
            have HJ := hideF hj
            clear b2 hj
            go_wp2_with fail
            refine HL2.out.mono ?_
            rintro e w3 ⟨rfl, k3, hw3⟩
            have HW3 : Hid (WaitIn B w3 d cur (.slice av l'.length cv) l') := by rw [hw3]; exact HW2.out.drewN k3
            have HF3 : Hid (FtT B (wtT d) w w3) := by rw [hw3]; exact HF2.out.drewN k3
            have c3 := HW3.out.cell
            obtain ⟨g3x, cx, hav, _, _, _, _⟩ := own_ans HW3.out.own (get_ans l' i (by omega))
            simp only [Value.slice.injEq, true_and] at hav
            obtain ⟨rfl, rfl⟩ := hav
            have m3 := mthSwap d _ cv _ w3 c3
            have HS3 := hideF (swap_int (w := w3) HW3.out.own (i : Int) (2 * (i : Int) + 1) i (2 * i + 1) rfl (by omega) (by omega) (by omega) (by omega))
            clear hw3
            go_wp2_with fail
            refine HS3.out.mono ?_
            rintro e w4 ⟨rfl, ho4, hc4⟩
            obtain ⟨hw4, hf4⟩ := HW3.out.swapped (swapA_len l' i (2 * i + 1)).symm ho4 hc4
            have HW4 := hideF hw4
            have HF4 := hideF (HF3.out.trans hf4)
            clear ho4 hc4 hw4 hf4 c3 m3 HS3
            go_wp2_with fail
            go_roundw
            case rel => exact ⟨2 * i + 1, swapA l' i (2 * i + 1), by omega, by go_num, by rw [swapA_len]; exact HLL.out, fun r hr => HDN.out _ (.step (by omega) HB2.out (by rw [HJ.out]; exact hr)), HW4.out, HF4.out⟩
            case measure => simp [intOf]; omega
        | true =>
          have HL1 := hideF (less_int (w := wr) HW.out.own (2 * (i : Int) + 1 + 1) (2 * (i : Int) + 1) (2 * i + 1 + 1) (2 * i + 1) (by omega) (by omega) (by omega) (by omega) true b1)
          refine HL1.out.mono ?_
          rintro e W2 ⟨rfl, k2, hw2⟩
          have HW2 : Hid (WaitIn B W2 d cur (.slice av l'.length cv) l') := by rw [hw2]; exact HW.out.drewN k2
          have HF2 : Hid (FtT B (wtT d) w W2) := by rw [hw2]; exact HF.out.drewN k2
          have m2 := mthLess d _ cv av W2 HW2.out.cell
          clear hw2 m1 c14
          have hj : pickJ n i l' = 2 * i + 1 + 1 := by unfold pickJ; rw [if_pos ⟨g3, by simpa using b1⟩]
          cases b2 : decide (keyA l' (2 * i + 1 + 1) < keyA l' i) with
          | false =>
            have HL2 := hideF (less_int (w := W2) HW2.out.own (2 * (i : Int) + 1 + 1) (i : Int) (2 * i + 1 + 1) i (by omega) rfl (by omega) (by omega) false b2)
            have HB2 : Hid (¬ keyA l' (pickJ n i l') < keyA l' i) := by rw [hj]; exact of_decide_eq_false b2
            clear b2 hj
            go_wp2_with fail
            refine HL2.out.mono ?_
            rintro e w3 ⟨rfl, k3, rfl⟩
            go_wp2_with fail
            go_ret
            exact ⟨_, l', rfl, HDN.out _ (.stop (by omega) (Int.not_lt.2 HB2.out)), HLL.out, HW2.out.drewN _, HF2.out.drewN _⟩
          | true =>
            have HL2 := hideF (less_int (w := W2) HW2.out.own (2 * (i : Int) + 1 + 1) (i : Int) (2 * i + 1 + 1) i (by omega) rfl (by omega) (by omega) true b2)
            have HB2 : Hid (keyA l' (pickJ n i l') < keyA l' i) := by show _ < _; rw [hj]; simpa using b2
            have HJ := hideF hj
            clear b2 hj
            go_wp2_with fail
            refine HL2.out.mono ?_
            rintro e w3 ⟨rfl, k3, hw3⟩
            have HW3 : Hid (WaitIn B w3 d cur (.slice av l'.length cv) l') := by rw [hw3]; exact HW2.out.drewN k3
            have HF3 : Hid (FtT B (wtT d) w w3) := by rw [hw3]; exact HF2.out.drewN k3
            have c3 := HW3.out.cell
            obtain ⟨g3x, cx, hav, _, _, _, _⟩ := own_ans HW3.out.own (get_ans l' i (by omega))
            simp only [Value.slice.injEq, true_and] at hav
            obtain ⟨rfl, rfl⟩ := hav
            have m3 := mthSwap d _ cv _ w3 c3
            have HS3 := hideF (swap_int (w := w3) HW3.out.own (i : Int) (2 * (i : Int) + 1 + 1) i (2 * i + 1 + 1) rfl (by omega) (by omega) (by omega) (by omega))
            clear hw3
            go_wp2_with fail
            refine HS3.out.mono ?_
            rintro e w4 ⟨rfl, ho4, hc4⟩
            obtain ⟨hw4, hf4⟩ := HW3.out.swapped (swapA_len l' i (2 * i + 1 + 1)).symm ho4 hc4
            have HW4 := hideF hw4
            have HF4 := hideF (HF3.out.trans hf4)
            clear ho4 hc4 hw4 hf4 c3 m3 HS3
            go_wp2_with fail
            go_roundw
            case rel => exact ⟨2 * i + 1 + 1, swapA l' i (2 * i + 1 + 1), by omega, by go_num, by rw [swapA_len]; exact HLL.out, fun r hr => HDN.out _ (.step (by omega) HB2.out (by rw [HJ.out]; exact hr)), HW4.out, HF4.out⟩
            case measure => simp [intOf]; omega
      . have g3' : decide (2 * (i : Int) + 1 + 1 < (n : Int)) = false := by simp; omega
        obtain ⟨W2, hW2⟩ : ∃ W2, W2 = wr := ⟨_, rfl⟩
        have HW2 : Hid (WaitIn B W2 d cur (.slice av l'.length cv) l') := by rw [hW2]; exact HW.out
        have HF2 : Hid (FtT B (wtT d) w W2) := by rw [hW2]; exact HF.out
        have m2 := mthLess d _ cv av W2 HW2.out.cell
        rw [<- hW2]
        clear hW2 m1 c14
        have hj : pickJ n i l' = 2 * i + 1 := by unfold pickJ; rw [if_neg (fun h => g3 h.1)]
        cases b2 : decide (keyA l' (2 * i + 1) < keyA l' i) with
        | false =>
          have HL2 := hideF (less_int (w := W2) HW2.out.own (2 * (i : Int) + 1) (i : Int) (2 * i + 1) i (by omega) rfl (by omega) (by omega) false b2)
          have HB2 : Hid (¬ keyA l' (pickJ n i l') < keyA l' i) := by rw [hj]; exact of_decide_eq_false b2
          clear b2 hj
          go_wp2_with fail
          refine HL2.out.mono ?_
          rintro e w3 ⟨rfl, k3, rfl⟩
          go_wp2_with fail
          go_ret
          exact ⟨_, l', rfl, HDN.out _ (.stop (by omega) (Int.not_lt.2 HB2.out)), HLL.out, HW2.out.drewN _, HF2.out.drewN _⟩
        | true =>
          have HL2 := hideF (less_int (w := W2) HW2.out.own (2 * (i : Int) + 1) (i : Int) (2 * i + 1) i (by omega) rfl (by omega) (by omega) true b2)
          have HB2 : Hid (keyA l' (pickJ n i l') < keyA l' i) := by show _ < _; rw [hj]; simpa using b2
          have HJ := hideF hj
          clear b2 hj
          go_wp2_with fail
          refine HL2.out.mono ?_
          rintro e w3 ⟨rfl, k3, hw3⟩
          have HW3 : Hid (WaitIn B w3 d cur (.slice av l'.length cv) l') := by rw [hw3]; exact HW2.out.drewN k3
          have HF3 : Hid (FtT B (wtT d) w w3) := by rw [hw3]; exact HF2.out.drewN k3
          have c3 := HW3.out.cell
          obtain ⟨g3x, cx, hav, _, _, _, _⟩ := own_ans HW3.out.own (get_ans l' i (by omega))
          simp only [Value.slice.injEq, true_and] at hav
          obtain ⟨rfl, rfl⟩ := hav
          have m3 := mthSwap d _ cv _ w3 c3
          have HS3 := hideF (swap_int (w := w3) HW3.out.own (i : Int) (2 * (i : Int) + 1) i (2 * i + 1) rfl (by omega) (by omega) (by omega) (by omega))
          clear hw3
          go_wp2_with fail
          refine HS3.out.mono ?_
          rintro e w4 ⟨rfl, ho4, hc4⟩
          obtain ⟨hw4, hf4⟩ := HW3.out.swapped (swapA_len l' i (2 * i + 1)).symm ho4 hc4
          have HW4 := hideF hw4
          have HF4 := hideF (HF3.out.trans hf4)
          clear ho4 hc4 hw4 hf4 c3 m3 HS3
          go_wp2_with fail
          go_roundw
          case rel => exact ⟨2 * i + 1, swapA l' i (2 * i + 1), by omega, by go_num, by rw [swapA_len]; exact HLL.out, fun r hr => HDN.out _ (.step (by omega) HB2.out (by rw [HJ.out]; exact hr)), HW4.out, HF4.out⟩
          case measure => simp [intOf]; omega
end Go.Proofs.YtcpldcojckhapaaGreat

namespace Go.Proofs.YtcpldcojckhapaaGreat
open Go.RowKit
def swapI (l : List Nat) (i j : Nat) : List Nat := (l.set i (l.getD j 0)).set j (l.getD i 0)
def pickI (n i : Nat) (l : List Nat) : Nat := if 2 * i + 1 + 1 < n /\ l.getD (2 * i + 1 + 1) 0 < l.getD (2 * i + 1) 0 then 2 * i + 1 + 1 else 2 * i + 1
def downI : Nat -> Nat -> Nat -> List Nat -> List Nat
  | 0, _, _, l => l
  | fuel + 1, n, i, l => if n <= 2 * i + 1 then l else if l.getD (pickI n i l) 0 < l.getD i 0 then downI fuel n (pickI n i l) (swapI l i (pickI n i l)) else l
def Asc (f : Nat -> Ans) : Prop := ∀ a b, (f a).1 < (f b).1 ↔ a < b
theorem swapI_len (l : List Nat) (i j : Nat) : (swapI l i j).length = l.length := by simp [swapI]
theorem getD_map (f : Nat -> Ans) (l : List Nat) (a : Nat) (h : a < l.length) : (l.map f).getD a (0, 0, ⟨#[]⟩) = f (l.getD a 0) := by
  simp [List.getD_eq_getElem?_getD, h]
theorem keyA_map (f : Nat -> Ans) (l : List Nat) (a : Nat) (h : a < l.length) : keyA (l.map f) a = (f (l.getD a 0)).1 := by
  unfold keyA; rw [getD_map f l a h]
theorem swapA_map (f : Nat -> Ans) (l : List Nat) (i j : Nat) (hi : i < l.length) (hj : j < l.length) : swapA (l.map f) i j = (swapI l i j).map f := by
  unfold swapA swapI
  rw [getD_map f l i hi, getD_map f l j hj, List.map_set, List.map_set]
theorem pickJ_map {f : Nat -> Ans} (hf : Asc f) (l : List Nat) (n i : Nat) (hn : n <= l.length) (_hi : 2 * i + 1 < n) : pickJ n i (l.map f) = pickI n i l := by
  unfold pickJ pickI
  by_cases h : 2 * i + 1 + 1 < n
  . rw [keyA_map f l _ (by omega), keyA_map f l _ (by omega)]
    by_cases h2 : l.getD (2 * i + 1 + 1) 0 < l.getD (2 * i + 1) 0
    . rw [if_pos ⟨h, (hf _ _).2 h2⟩, if_pos ⟨h, h2⟩]
    . rw [if_neg (fun e => h2 ((hf _ _).1 e.2)), if_neg (fun e => h2 e.2)]
  . rw [if_neg (fun e => h e.1), if_neg (fun e => h e.1)]
theorem pickI_lt (n i : Nat) (l : List Nat) (hi : 2 * i + 1 < n) : pickI n i l < n /\ i < pickI n i l := by
  unfold pickI; split <;> omega
theorem down_map {f : Nat -> Ans} (hf : Asc f) {n i : Nat} {l r : List Ans} (h : DownTo n i l r) : ∀ (is : List Nat) (fuel : Nat), l = is.map f -> n <= is.length -> n <= fuel + i -> r = (downI fuel n i is).map f := by
  induction h with
  | leaf h =>
    rintro is fuel rfl _ _
    cases fuel with
    | zero => rfl
    | succ fuel => unfold downI; rw [if_pos h]
  | stop h hk =>
    rintro is fuel rfl hn hfu
    cases fuel with
    | zero => rfl
    | succ fuel =>
      unfold downI
      rw [if_neg (by omega)]
      rw [pickJ_map hf is _ _ hn h, keyA_map f is _ (by have := pickI_lt _ _ is h; omega), keyA_map f is _ (by omega)] at hk
      rw [if_neg (fun e => hk ((hf _ _).2 e))]
  | step h hk hr ih =>
    rintro is fuel rfl hn hfu
    cases fuel with
    | zero => omega
    | succ fuel =>
      have hp := pickI_lt _ _ is h
      unfold downI
      rw [if_neg (by omega)]
      rw [pickJ_map hf is _ _ hn h] at hk ih
      rw [keyA_map f is _ (by omega), keyA_map f is _ (by omega)] at hk
      rw [if_pos ((hf _ _).1 hk)]
      exact ih _ fuel (swapA_map f is _ _ (by omega) (by omega)) (by rw [swapI_len]; exact hn) (by omega)
def idxs (k : Nat) : Nat -> List Nat
  | 0 => List.range k
  | j + 1 => (downI 8 ((idxs k j).length - 1) 0 (swapI (idxs k j) 0 ((idxs k j).length - 1))).dropLast
theorem idxs_all : ∀ k, k < 9 -> ∀ j, j < k -> (idxs k j).length = k - j /\ downI 8 ((idxs k j).length - 1) 0 (swapI (idxs k j) 0 ((idxs k j).length - 1)) = idxs k (j + 1) ++ [j] := by decide +kernel
theorem idxs_end : ∀ k, k < 9 -> idxs k k = [] := by decide +kernel
theorem idxs_len (k j : Nat) (hk : k <= 8) (hj : j <= k) : (idxs k j).length = k - j := by
  rcases Nat.lt_or_ge j k with h | h
  . exact (idxs_all k (by omega) j h).1
  . obtain rfl : j = k := by omega
    rw [idxs_end j (by omega)]; simp
def Up8 (h s : List Ans) : Prop := ∃ (f : Nat -> Ans) (k j : Nat), k <= 8 /\ j <= k /\ Asc f /\ h = (idxs k j).map f /\ s = (List.range' j (k - j)).map f
theorem up8_len (h s : List Ans) (hr : Up8 h s) : h.length = s.length := by
  obtain ⟨f, k, j, hk, hj, _, rfl, rfl⟩ := hr
  simp [idxs_len k j hk hj]
theorem up8_start (f : Nat -> Ans) (hf : Asc f) (k : Nat) (hk : k <= 8) : Up8 ((List.range k).map f) ((List.range k).map f) :=
  ⟨f, k, 0, hk, by omega, hf, rfl, by rw [List.range_eq_range']; rfl⟩
set_option maxRecDepth 100000 in
set_option maxHeartbeats 1000000 in
theorem heapPop_more {B : Nat} (d n : Nat) (cur : Array Value) (wv : Value) (l : List Ans) (w : World) (hl : l.length = n + 1) (hn : 1 <= n) (hn2 : n <= 900) (h : WaitIn B w d cur wv l) :
    Calls Tryz.prog 89 #[.iface 160 (.pointer (some ⟨d, 14, none⟩))] w fun e w' => ∃ v' r x h', r = h' ++ [x] /\ DownTo n 0 (swapA l 0 n) r /\ e = .returned (.iface 163 (.agg #[.int .i64 x.1, .int .i64 x.2.1, .string x.2.2])) /\ WaitIn B w' d (cur.setIfInBounds 14 v') v' h' /\ FtT B (wtT d) w w' := by
  obtain ⟨g, c, rfl, hg, _, _, _⟩ := own_ans h.own (get_ans l 0 (by omega))
  have c14 := h.cell
  have m1 := mthLen d _ c _ w c14
  have m2 := mthSwap d _ c _ w c14
  have HS := hideF (swap_int (w := w) h.own (0 : Int) (n : Int) 0 n rfl rfl (by omega) (by omega) (by omega))
  have HW := hideF h
  have hlI : (l.length : Int) - 1 = (n : Int) := by omega
  have HLN := hideF hl
  clear hl
  clear h
  go_enter Tryz.func89, Tryz.ntmps89
  go_wp2_with fail
  refine (hlen_any _ _ _ _).mono ?_
  rintro e w1 ⟨rfl, rfl⟩
  go_wp2_with fail
  refine HS.out.mono ?_
  rintro e w2 ⟨rfl, ho2, hc2⟩
  obtain ⟨hw2, hf2⟩ := HW.out.swapped (swapA_len l 0 n).symm ho2 hc2
  have HW2 := hideF hw2
  have HF2 := hideF hf2
  clear ho2 hc2 hw2 hf2 m1 m2 c14
  go_wp2_with fail
  refine (down_any d 0 n cur _ (swapA l 0 n) _ HW2.out (by rw [swapA_len, HLN.out]; omega) (by rw [swapA_len, HLN.out]; omega) (by omega)).mono ?_
  rintro e w3 ⟨b3, r, rfl, hd3, hlr, hw3, hf3⟩
  have m3 := mthPop (some ⟨d, 14, none⟩)
  have HW3 := hideF hw3
  have HF3 := hideF (HF2.out.trans hf3)
  have HD3 := hideF hd3
  rw [swapA_len, HLN.out] at hlr
  obtain ⟨h', x, rfl⟩ : ∃ h' x, r = h' ++ [x] := ⟨r.dropLast, r.getLast (by intro e; rw [e] at hlr; simp at hlr), (List.dropLast_concat_getLast _).symm⟩
  clear hw3 hf3 hd3
  go_wp2_with fail
  refine (hpopm_any d n cur _ h' x _ (by simp at hlr; omega) (by omega) HW3.out).mono ?_
  rintro e w4 ⟨v', rfl, hw4, hf4⟩
  have HW4 := hideF hw4
  have HF4 := hideF (HF3.out.trans hf4)
  clear hw4 hf4
  go_wp2
  go_ret
  exact ⟨_, _, x, h', rfl, HD3.out, rfl, HW4.out, HF4.out⟩
theorem range'_cons (j n : Nat) (h : 0 < n) : List.range' j n = j :: List.range' (j + 1) (n - 1) := by
  obtain ⟨m, rfl⟩ : ∃ m, n = m + 1 := ⟨n - 1, by omega⟩
  rfl
theorem pops_up8 {B : Nat} (d : Nat) : Pops B d Up8 := by
  rintro h s x cur wv w ⟨f, k, j, hk, hj, hf, rfl, hs⟩ hw
  have hjk : j < k := by
    rcases Nat.lt_or_ge j k with h | h
    . exact h
    . have : k - j = 0 := by omega
      rw [this] at hs
      simp at hs
  rw [range'_cons j (k - j) (by omega)] at hs
  obtain ⟨rfl, rfl⟩ := List.cons.inj hs
  obtain ⟨hlen, hdn⟩ := idxs_all k (by omega) j hjk
  rcases Nat.lt_or_ge (k - j) 2 with h1 | h1
  . have h1' : k - j = 1 := by omega
    have hl1 : (idxs k j).length = 1 := by omega
    have e0 : downI 8 0 0 (swapI (idxs k j) 0 0) = idxs k (j + 1) ++ [j] := by rw [<- hdn, hl1]
    match hi : idxs k j, hl1 with
    | [a], _ =>
      rw [hi] at e0
      have e1 : [a] = idxs k (j + 1) ++ [j] := e0
      have e2 : idxs k (j + 1) = [] /\ a = j := by
        match h : idxs k (j + 1) with
        | [] => rw [h] at e1; exact ⟨rfl, by simpa using e1⟩
        | _ :: _ => rw [h] at e1; simp at e1
      rw [hi] at hw
      obtain ⟨e3, rfl⟩ := e2
      refine (heapPop_one d cur wv (f a) w hw).mono fun e w' ⟨v', h1, h2, h3⟩ => ⟨v', [], h1, ⟨f, k, a + 1, hk, by omega, hf, by rw [e3]; rfl, by rw [show k - a - 1 = k - (a + 1) by omega]⟩, h2, h3⟩
  . refine (heapPop_more d (k - j - 1) cur wv _ w (by simp; omega) (by omega) (by omega) hw).mono ?_
    rintro e w' ⟨v', r, y, h', hr, hd, he, h2, h3⟩
    rw [swapA_map f _ _ _ (by omega) (by omega)] at hd
    have e1 := down_map hf hd _ 8 rfl (by rw [swapI_len]; omega) (by omega)
    rw [show k - j - 1 = (idxs k j).length - 1 by omega, hdn, List.map_append, hr] at e1
    obtain ⟨e2, e3⟩ := List.append_inj' e1 rfl
    obtain rfl : y = f j := by simpa using e3
    exact ⟨v', h', he, ⟨f, k, j + 1, hk, by omega, hf, e2, by rw [show k - j - 1 = k - (j + 1) by omega]⟩, h2, h3⟩
end Go.Proofs.YtcpldcojckhapaaGreat
