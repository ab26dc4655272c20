/-
  The answers that wait: heap.Pop, and the popping of up to eight answers that came in order.
-/
import Derived.Test.YtcpldcojckhapaaGreatHd
namespace Go.Proofs.YtcpldcojckhapaaGreat
open Go.RowKit

def swapI (l : List Nat) (i j : Nat) : List Nat := (l.set i (l.getD j 0)).set j (l.getD i 0)
def pickI (n i : Nat) (l : List Nat) : Nat := if 2 * i + 1 + 1 < n ∧ l.getD (2 * i + 1 + 1) 0 < l.getD (2 * i + 1) 0 then 2 * i + 1 + 1 else 2 * i + 1
def downI : Nat → Nat → Nat → List Nat → List Nat
  | 0, _, _, l => l
  | fuel + 1, n, i, l => if n ≤ 2 * i + 1 then l else if l.getD (pickI n i l) 0 < l.getD i 0 then downI fuel n (pickI n i l) (swapI l i (pickI n i l)) else l
def Asc (f : Nat → Ans) : Prop := ∀ a b, (f a).1 < (f b).1 ↔ a < b
theorem swapI_len (l : List Nat) (i j : Nat) : (swapI l i j).length = l.length := by simp [swapI]
theorem getD_map (f : Nat → Ans) (l : List Nat) (a : Nat) (h : a < l.length) : (l.map f).getD a (0, 0, ⟨#[]⟩) = f (l.getD a 0) := by
  simp [List.getD_eq_getElem?_getD, h]
theorem keyA_map (f : Nat → Ans) (l : List Nat) (a : Nat) (h : a < l.length) : keyA (l.map f) a = (f (l.getD a 0)).1 := by
  unfold keyA; rw [getD_map f l a h]
theorem swapA_map (f : Nat → Ans) (l : List Nat) (i j : Nat) (hi : i < l.length) (hj : j < l.length) : swapA (l.map f) i j = (swapI l i j).map f := by
  unfold swapA swapI
  rw [getD_map f l i hi, getD_map f l j hj, List.map_set, List.map_set]
theorem pickJ_map {f : Nat → Ans} (hf : Asc f) (l : List Nat) (n i : Nat) (hn : n ≤ l.length) (_hi : 2 * i + 1 < n) : pickJ n i (l.map f) = pickI n i l := by
  unfold pickJ pickI
  by_cases h : 2 * i + 1 + 1 < n
  · rw [keyA_map f l _ (by omega), keyA_map f l _ (by omega)]
    by_cases h2 : l.getD (2 * i + 1 + 1) 0 < l.getD (2 * i + 1) 0
    · rw [if_pos ⟨h, (hf _ _).2 h2⟩, if_pos ⟨h, h2⟩]
    · rw [if_neg (fun e => h2 ((hf _ _).1 e.2)), if_neg (fun e => h2 e.2)]
  · rw [if_neg (fun e => h e.1), if_neg (fun e => h e.1)]
theorem pickI_lt (n i : Nat) (l : List Nat) (hi : 2 * i + 1 < n) : pickI n i l < n ∧ i < pickI n i l := by
  unfold pickI; split <;> omega
theorem down_map {f : Nat → Ans} (hf : Asc f) {n i : Nat} {l r : List Ans} (h : DownTo n i l r) : ∀ (is : List Nat) (fuel : Nat), l = is.map f → n ≤ is.length → n ≤ fuel + i → r = (downI fuel n i is).map f := by
  induction h with
  | leaf h =>
    rintro is fuel rfl _ _
    cases fuel with
    | zero => rfl
    | succ fuel => unfold downI; rw [if_pos h]
  | stop h hk =>
    rintro is fuel rfl hn hfu
    cases fuel with
    | zero => rfl
    | succ fuel =>
      unfold downI
      rw [if_neg (by omega)]
      rw [pickJ_map hf is _ _ hn h, keyA_map f is _ (by have := pickI_lt _ _ is h; omega), keyA_map f is _ (by omega)] at hk
      rw [if_neg (fun e => hk ((hf _ _).2 e))]
  | step h hk hr ih =>
    rintro is fuel rfl hn hfu
    cases fuel with
    | zero => omega
    | succ fuel =>
      have hp := pickI_lt _ _ is h
      unfold downI
      rw [if_neg (by omega)]
      rw [pickJ_map hf is _ _ hn h] at hk ih
      rw [keyA_map f is _ (by omega), keyA_map f is _ (by omega)] at hk
      rw [if_pos ((hf _ _).1 hk)]
      exact ih _ fuel (swapA_map f is _ _ (by omega) (by omega)) (by rw [swapI_len]; exact hn) (by omega)
/-- Which of k answers that came in order lie where, when j of them are popped. -/
def idxs (k : Nat) : Nat → List Nat
  | 0 => List.range k
  | j + 1 => (downI 8 ((idxs k j).length - 1) 0 (swapI (idxs k j) 0 ((idxs k j).length - 1))).dropLast
theorem idxs_all : ∀ k, k < 9 → ∀ j, j < k → (idxs k j).length = k - j ∧ downI 8 ((idxs k j).length - 1) 0 (swapI (idxs k j) 0 ((idxs k j).length - 1)) = idxs k (j + 1) ++ [j] := by decide +kernel
theorem idxs_end : ∀ k, k < 9 → idxs k k = [] := by decide +kernel
theorem idxs_len (k j : Nat) (hk : k ≤ 8) (hj : j ≤ k) : (idxs k j).length = k - j := by
  rcases Nat.lt_or_ge j k with h | h
  · exact (idxs_all k (by omega) j h).1
  · obtain rfl : j = k := by omega
    rw [idxs_end j (by omega)]; simp
/-- What is left of up to eight answers that came in order, and how it lies. -/
def Up8 (h s : List Ans) : Prop := ∃ (f : Nat → Ans) (k j : Nat), k ≤ 8 ∧ j ≤ k ∧ Asc f ∧ h = (idxs k j).map f ∧ s = (List.range' j (k - j)).map f
theorem up8_len (h s : List Ans) (hr : Up8 h s) : h.length = s.length := by
  obtain ⟨f, k, j, hk, hj, _, rfl, rfl⟩ := hr
  simp [idxs_len k j hk hj]
theorem up8_start (f : Nat → Ans) (hf : Asc f) (k : Nat) (hk : k ≤ 8) : Up8 ((List.range k).map f) ((List.range k).map f) :=
  ⟨f, k, 0, hk, by omega, hf, rfl, by rw [List.range_eq_range']; rfl⟩

set_option maxRecDepth 100000 in
set_option maxHeartbeats 1000000 in
theorem heapPop_more {B : Nat} (d n : Nat) (cur : Array Value) (wv : Value) (l : List Ans) (w : World) (hl : l.length = n + 1) (hn : 1 ≤ n) (hn2 : n ≤ 900) (h : WaitIn B w d cur wv l) :
    Calls Tryz.prog 89 #[.iface 160 (.pointer (some ⟨d, 14, none⟩))] w fun e w' => ∃ v' r x h', r = h' ++ [x] ∧ DownTo n 0 (swapA l 0 n) r ∧ e = .returned (.iface 163 (.agg #[.int .i64 x.1, .int .i64 x.2.1, .string x.2.2])) ∧ WaitIn B w' d (cur.setIfInBounds 14 v') v' h' ∧ FtT B wtT w w' := by
  obtain ⟨g, c, rfl, hg, _, _, _⟩ := own_ans h.own (get_ans l 0 (by omega))
  have c14 := h.cell
  have m1 := mthLen d _ c _ w c14
  have m2 := mthSwap d _ c _ w c14
  have HS := hideF (swap_int (w := w) h.own (0 : Int) (n : Int) 0 n rfl rfl (by omega) (by omega) (by omega))
  have HW := hideF h
  have hlI : (l.length : Int) - 1 = (n : Int) := by omega
  have HLN := hideF hl
  clear hl
  clear h
  go_enter Tryz.func89, Tryz.ntmps89
  go_wp2_with fail
  refine (hlen_any _ _ _ _).mono ?_
  rintro e w1 ⟨rfl, rfl⟩
  go_wp2_with fail

  refine HS.out.mono ?_
  rintro e w2 ⟨rfl, ho2, hc2⟩
  obtain ⟨hw2, hf2⟩ := HW.out.swapped (swapA_len l 0 n).symm ho2 hc2
  have HW2 := hideF hw2
  have HF2 := hideF hf2
  clear ho2 hc2 hw2 hf2 m1 m2 c14
  go_wp2_with fail
  refine (down_any d 0 n cur _ (swapA l 0 n) _ HW2.out (by rw [swapA_len, HLN.out]; omega) (by rw [swapA_len, HLN.out]; omega) (by omega)).mono ?_
  rintro e w3 ⟨b3, r, rfl, hd3, hlr, hw3, hf3⟩
  have m3 := mthPop (some ⟨d, 14, none⟩)
  have HW3 := hideF hw3
  have HF3 := hideF (HF2.out.trans hf3)
  have HD3 := hideF hd3
  rw [swapA_len, HLN.out] at hlr
  obtain ⟨h', x, rfl⟩ : ∃ h' x, r = h' ++ [x] := ⟨r.dropLast, r.getLast (by intro e; rw [e] at hlr; simp at hlr), (List.dropLast_concat_getLast _).symm⟩
  clear hw3 hf3 hd3
  go_wp2_with fail
  refine (hpopm_any d n cur _ h' x _ (by simp at hlr; omega) (by omega) HW3.out).mono ?_
  rintro e w4 ⟨v', rfl, hw4, hf4⟩
  have HW4 := hideF hw4
  have HF4 := hideF (HF3.out.trans hf4)
  clear hw4 hf4
  go_wp2
  go_ret
  exact ⟨_, _, x, h', rfl, HD3.out, rfl, HW4.out, HF4.out⟩
theorem range'_cons (j n : Nat) (h : 0 < n) : List.range' j n = j :: List.range' (j + 1) (n - 1) := by
  obtain ⟨m, rfl⟩ : ∃ m, n = m + 1 := ⟨n - 1, by omega⟩
  rfl
theorem pops_up8 {B : Nat} (d : Nat) : Pops B d Up8 := by
  rintro h s x cur wv w ⟨f, k, j, hk, hj, hf, rfl, hs⟩ hw
  have hjk : j < k := by
    rcases Nat.lt_or_ge j k with h | h
    · exact h
    · have : k - j = 0 := by omega
      rw [this] at hs
      simp at hs
  rw [range'_cons j (k - j) (by omega)] at hs
  obtain ⟨rfl, rfl⟩ := List.cons.inj hs
  obtain ⟨hlen, hdn⟩ := idxs_all k (by omega) j hjk
  rcases Nat.lt_or_ge (k - j) 2 with h1 | h1
  · have h1' : k - j = 1 := by omega
    have hl1 : (idxs k j).length = 1 := by omega
    have e0 : downI 8 0 0 (swapI (idxs k j) 0 0) = idxs k (j + 1) ++ [j] := by rw [← hdn, hl1]
    match hi : idxs k j, hl1 with
    | [a], _ =>
      rw [hi] at e0
      have e1 : [a] = idxs k (j + 1) ++ [j] := e0
      have e2 : idxs k (j + 1) = [] ∧ a = j := by
        match h : idxs k (j + 1) with
        | [] => rw [h] at e1; exact ⟨rfl, by simpa using e1⟩
        | _ :: _ => rw [h] at e1; simp at e1
      rw [hi] at hw
      obtain ⟨e3, rfl⟩ := e2
      refine (heapPop_one d cur wv (f a) w hw).mono fun e w' ⟨v', h1, h2, h3⟩ => ⟨v', [], h1, ⟨f, k, a + 1, hk, by omega, hf, by rw [e3]; rfl, by rw [show k - a - 1 = k - (a + 1) by omega]⟩, h2, h3⟩
  · refine (heapPop_more d (k - j - 1) cur wv _ w (by simp; omega) (by omega) (by omega) hw).mono ?_
    rintro e w' ⟨v', r, y, h', hr, hd, he, h2, h3⟩
    rw [swapA_map f _ _ _ (by omega) (by omega)] at hd
    have e1 := down_map hf hd _ 8 rfl (by rw [swapI_len]; omega) (by omega)
    rw [show k - j - 1 = (idxs k j).length - 1 by omega, hdn, List.map_append, hr] at e1
    obtain ⟨e2, e3⟩ := List.append_inj' e1 rfl
    obtain rfl : y = f j := by simpa using e3
    exact ⟨v', h', he, ⟨f, k, j + 1, hk, by omega, hf, e2, by rw [show k - j - 1 = k - (j + 1) by omega]⟩, h2, h3⟩
end Go.Proofs.YtcpldcojckhapaaGreat
