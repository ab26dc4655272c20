/-
  A Stream line that hears some bytes: what it answers, and what it keeps.
  Plain facts: what went in as requests comes out of the splitting.
-/
import Derived.Test.YtcpldcojckhapaaGreatJ11
import Derived.Test.YtcpldcojckhapaaGreatJ32
import Derived.Test.YtcpldcojckhapaaGreatJ33
set_option maxRecDepth 100000
namespace Go.Proofs.YtcpldcojckhapaaGreat
open Go.RowKit

/-- A Stream line behind a splitting. -/
def heardL (all : ByteArray) (t : Nat) (k : Int) : Ln := if k = 0 then ⟨0, all.extract t all.size, false⟩ else ⟨0, ⟨#[]⟩, true⟩
theorem SplIs.le {s : ByteArray} {acc : List Value} {t : Nat} {k : Int} (h : SplIs s acc t k) : t ≤ s.size := by
  have := (Pl.spl_end s (s.size + 1) 0 (Nat.zero_le _)).2
  have e : Pl.spl s (s.size + 1) 0 = (acc, t) := h.1
  rw [e] at this
  exact this
theorem SplIs.code {s : ByteArray} {acc : List Value} {t : Nat} {k : Int} (h : SplIs s acc t k) : k = 0 ∨ k = 4 := by
  have := h.2
  by_cases hb : Pl.brk (s.extract t s.size) = true
  · rw [if_pos hb] at this; exact .inr this
  · rw [if_neg hb] at this; exact .inl this
theorem line_set {w : World} {L n i : Nat} {ln : Nat → Ln} {x : Ln} {v : Value} {j : Nat} (hG : Grid w L 116 n 3 (fun a b => lnc (ln a) b)) (hi : i < n) (hj : j < 3) (hv : lnc x j = v) (hx : ∀ b, b < 3 → b ≠ j → lnc x b = lnc (ln i) b) :
    Grid (w.setCell ⟨L, i * 3 + j, none⟩ v) L 116 n 3 (fun a b => lnc (if a = i then x else ln a) b) := by
  refine (hG.set hi hj v).congr fun a b _ hb => ?_
  by_cases e : a = i ∧ b = j
  · rw [if_pos e, if_pos e.1, e.2, hv]
  · rw [if_neg e]
    by_cases e1 : a = i
    · rw [if_pos e1, hx b hb (fun h => e ⟨e1, h⟩), e1]
    · rw [if_neg e1]

set_option maxRecDepth 100000 in
set_option maxHeartbeats 1000000 in
theorem hear_stream (L i n : Nat) (ln : Nat → Ln) (s : ByteArray) (w : World) (hG : Grid w L 116 n 3 (fun a j => lnc (ln a) j)) (hi : i < n) (hk : (ln i).kind = 0) (hbr : (ln i).broken = false) (hs : ((ln i).bytes ++ s).size ≤ 4194304) :
    Calls Tryz.prog 56 #[.pointer (some ⟨L, i * 3, none⟩), .string s] w fun e w' => ∃ v m acc t k, e = .returned v ∧ w'.ownsRow w.heap.size 94 3 v m acc ∧ SplIs ((ln i).bytes ++ s) acc t k ∧ m ≤ 524288 ∧
      Grid w' L 116 n 3 (fun a j => lnc (if a = i then heardL ((ln i).bytes ++ s) t k else ln a) j) ∧ Chg1 L w w' := by
  have c0 : w.cell? ⟨L, i * 3, none⟩ = some (.int .i64 0) := by have := hG.cell hi (j := 0) (by omega); rw [Nat.add_zero] at this; rw [this]; simp [lnc, hk]
  have c1 : w.cell? ⟨L, i * 3 + 1, none⟩ = some (.string (ln i).bytes) := by have := hG.cell hi (j := 1) (by omega); rw [this]; simp [lnc]
  have c2 : w.cell? ⟨L, i * 3 + 2, none⟩ = some (.bool false) := by have := hG.cell hi (j := 2) (by omega); rw [this]; simp [lnc, hbr]
  have HG := hideF hG
  have hLs := hG.lt
  obtain ⟨A, hA⟩ : ∃ A, A = (ln i).bytes := ⟨_, rfl⟩
  have HA := hideF hA
  rw [← hA] at hs c1 ⊢
  clear hA hG
  have hz : A.size + s.size ≤ 4194304 := by rw [ByteArray.size_append] at hs; exact hs
  have hlim : ¬ 9223372036854775807 < A.size + s.size := by omega
  have HK := hideF hk
  have HBR := hideF hbr
  clear hk hbr
  go_enter Tryz.func56, Tryz.ntmps56
  go_wp2_with fail
  refine (split_core (A ++ s) _ hs).mono ?_
  rintro e w1 ⟨v, m, acc, t, k, rfl, hown, hspl, hm, hb1⟩
  have ht := hspl.le
  have HS := hideF hspl
  have HO := hideF hown
  have HB := hideF hb1
  have hc1 := bcell hb1
  have hk := hspl.code
  clear hspl hown hb1 c0 c1 c2
  obtain ⟨S, hS⟩ : ∃ S, S = A ++ s := ⟨_, rfl⟩
  rw [← hS] at ht HS hs ⊢
  have HSE := hideF hS
  clear hS
  go_wp2_with fail
  refine (clone_any _ _ (by simp; omega)).mono ?_
  rintro e w2 ⟨rfl, hb2⟩
  have HG2 := hideF (HG.out.below (bel_then HB.out hb2) hLs)
  have HB2 := hideF (bel_then HB.out hb2)
  have HO2 := hideF (ownsRow_below HO.out hb2)
  have hf2 := HG2.out.frozen (i * 3 + 1)
  have hf3 := HG2.out.frozen (i * 3 + 2)
  have d1 := HG2.out.cell hi (j := 1) (by omega)
  have d2 := HG2.out.cell hi (j := 2) (by omega)
  clear HG HO HB hb2 hc1
  rcases hk with rfl | rfl
  · go_wp2_with fail
    go_ret
    rw [← HSE.out]
    refine ⟨_, m, acc, t, 0, rfl, own_same HO2.out (fun g hg => heap_setCell_other _ _ _ _ (by have := (HO2.out.lt g hg).1; simp; omega)), HS.out, hm, ?_, (Chg1.of_below L HB2.out).setCell _ _⟩
    refine line_set HG2.out hi (by omega) rfl fun b hb hne => ?_
    rcases (show b = 0 ∨ b = 2 by omega) with rfl | rfl
    · simp [lnc, heardL, HK.out]
    · simp [lnc, heardL, HBR.out]
  · go_wp2_with fail
    go_ret
    rw [← HSE.out]
    refine ⟨_, m, acc, t, 4, rfl, own_same HO2.out (fun g hg => ?_), HS.out, hm, ?_, (((Chg1.of_below L HB2.out).setCell _ _).setCell _ _).setCell _ _⟩
    · have h := (HO2.out.lt g hg).1
      rw [heap_setCell_other _ _ _ _ (by simp; omega), heap_setCell_other _ _ _ _ (by simp; omega), heap_setCell_other _ _ _ _ (by simp; omega)]
    · have g1 := line_set (x := ⟨0, S.extract t S.size, false⟩) (v := .string (S.extract t S.size)) HG2.out hi (j := 1) (by omega) rfl (fun b hb hne => by
        rcases (show b = 0 ∨ b = 2 by omega) with rfl | rfl
        · simp [lnc, HK.out]
        · simp [lnc, HBR.out])
      have g2 := line_set (x := ⟨0, ⟨#[]⟩, false⟩) (v := .string ⟨#[]⟩) g1 hi (j := 1) (by omega) rfl (fun b hb hne => by
        rcases (show b = 0 ∨ b = 2 by omega) with rfl | rfl
        · simp [lnc]
        · simp [lnc])
      have g3 := line_set (x := ⟨0, ⟨#[]⟩, true⟩) (v := .bool true) g2 hi (j := 2) (by omega) rfl (fun b hb hne => by
        rcases (show b = 0 ∨ b = 1 by omega) with rfl | rfl
        · simp [lnc]
        · simp [lnc])
      refine g3.congr fun a b _ _ => ?_
      by_cases e : a = i
      · simp [e, heardL]
      · simp [e]
end Go.Proofs.YtcpldcojckhapaaGreat

set_option maxRecDepth 100000
namespace Go.Proofs.YtcpldcojckhapaaGreat
namespace Pl

theorem byt_list (s : ByteArray) (k : Nat) : byt s k = (s.data.toList.getD k 0).toNat := by
  unfold byt
  by_cases h : k < s.size
  · rw [dif_pos h, List.getD_eq_getElem?_getD]
    have h2 : k < s.data.toList.length := by rw [Array.length_toList]; exact h
    rw [List.getElem?_eq_getElem h2]
    rfl
  · rw [dif_neg h, List.getD_eq_getElem?_getD, List.getElem?_eq_none (by rw [Array.length_toList]; exact Nat.le_of_not_lt h)]
    rfl
theorem byt_drop (s : ByteArray) (t k : Nat) (l : List UInt8) (h : s.data.toList.drop t = l) : byt s (t + k) = (l.getD k 0).toNat := by
  rw [byt_list, ← h, List.getD_eq_getElem?_getD, List.getD_eq_getElem?_getD, List.getElem?_drop]
theorem size_list (s : ByteArray) : s.size = s.data.toList.length := by rw [Array.length_toList]; rfl
theorem data_append (a b : ByteArray) : (a ++ b).data.toList = a.data.toList ++ b.data.toList := by simp

theorem streamB_list (m u : Nat) (b : ByteArray) : (streamB m u b).data.toList = [UInt8.ofNat (m / 256), UInt8.ofNat (m % 256), 0, 0, UInt8.ofNat ((b.size + 1) / 256), UInt8.ofNat ((b.size + 1) % 256), UInt8.ofNat u] ++ b.data.toList := by
  simp [streamB, twoB]
theorem streamB_size (m u : Nat) (b : ByteArray) : (streamB m u b).size = 7 + b.size := by
  rw [size_list, streamB_list, List.length_append, ← size_list]; rfl

/-- What may be sent. -/
def May (x : Nat × Nat × ByteArray) : Prop := x.1 < 65536 ∧ x.2.1 < 256 ∧ 1 ≤ x.2.2.size ∧ x.2.2.size ≤ 253
def frC (x : Nat × Nat × ByteArray) : List Value := [.int .i64 (x.1 : Nat), .int .i64 (x.2.1 : Nat), .string x.2.2]
def encL (x : Nat × Nat × ByteArray) : List UInt8 := (streamB x.1 x.2.1 x.2.2).data.toList

theorem at_one (s : ByteArray) (t : Nat) (x : Nat × Nat × ByteArray) (hx : May x) (rest : List UInt8) (h : s.data.toList.drop t = encL x ++ rest) :
    wholeAt s t = 7 + x.2.2.size ∧ frAt s t (7 + x.2.2.size) = frC x := by
  obtain ⟨m, u, b⟩ := x
  obtain ⟨h1, h2, h3, h4⟩ := hx
  simp only at h1 h2 h3 h4
  unfold encL at h
  rw [streamB_list] at h
  have hlen : s.size - t = 7 + b.size + rest.length := by
    have := congrArg List.length h
    rw [List.length_drop, List.length_append, List.length_append, ← size_list, ← size_list] at this
    rw [this]; rfl
  have hby : ∀ k, byt s (t + k) = (([UInt8.ofNat (m / 256), UInt8.ofNat (m % 256), 0, 0, UInt8.ofNat ((b.size + 1) / 256), UInt8.ofNat ((b.size + 1) % 256), UInt8.ofNat u] ++ b.data.toList ++ rest).getD k 0).toNat := fun k => byt_drop s t k _ h
  have b0 : byt s (t + 0) = m / 256 := by rw [hby]; simp; omega
  have b1 : byt s (t + 1) = m % 256 := by rw [hby]; simp
  have b2 : byt s (t + 2) = 0 := by rw [hby]; simp
  have b3 : byt s (t + 3) = 0 := by rw [hby]; simp
  have b4 : byt s (t + 4) = 0 := by rw [hby]; simp; omega
  have b5 : byt s (t + 5) = b.size + 1 := by rw [hby]; simp; omega
  have b6 : byt s (t + 6) = u := by rw [hby]; simp; omega
  have hbr : brk (s.extract t s.size) = false := brkAt_false s t b2 b3 b4 (fun _ => by omega)
  refine ⟨?_, ?_⟩
  · rw [wholeAt_some s t (by omega) hbr (by omega), b5]; show _ = 7 + b.size; omega
  · unfold frAt frC
    simp only
    have hx : s.extract (t + 7) (t + (7 + b.size)) = b := by
      apply ByteArray.ext
      apply Array.ext'
      have e : (s.extract (t + 7) (t + (7 + b.size))).data.toList = (s.data.toList.drop (t + 7)).take (t + (7 + b.size) - (t + 7)) := Lib.extract_data _ _ _
      rw [e, ← List.drop_drop, h, show t + (7 + b.size) - (t + 7) = b.size by omega, size_list b]
      simp
    rw [hx, b6, show byt s t = m / 256 from b0, b1]
    rw [show 256 * (m / 256) + m % 256 = m by omega]

theorem spl_all (s : ByteArray) (rest : List UInt8) (fs : List (Nat × Nat × ByteArray)) : ∀ (f t : Nat), (∀ x ∈ fs, May x) → fs.length < f → s.data.toList.drop t = fs.flatMap encL ++ rest →
    wholeAt s (t + (fs.flatMap encL).length) = 0 → spl s f t = (fs.flatMap frC, t + (fs.flatMap encL).length) := by
  induction fs with
  | nil =>
    intro f t _ _ _ hw
    have e1 : List.flatMap encL ([] : List (Nat × Nat × ByteArray)) = [] := rfl
    have e2 : List.flatMap frC ([] : List (Nat × Nat × ByteArray)) = [] := rfl
    rw [e1, List.length_nil, Nat.add_zero] at hw
    rw [spl_stop s f t hw, e1, e2, List.length_nil, Nat.add_zero]
  | cons x fs ih =>
    intro f t hm hf hd hw
    obtain ⟨g, rfl⟩ : ∃ g, f = g + 1 := ⟨f - 1, by omega⟩
    have hl : (encL x).length = 7 + x.2.2.size := by unfold encL; rw [← size_list, streamB_size]
    have hd' : s.data.toList.drop t = encL x ++ (fs.flatMap encL ++ rest) := by rw [hd]; simp
    obtain ⟨h1, h2⟩ := at_one s t x (hm x (by simp)) _ hd'
    have hd2 : s.data.toList.drop (t + (7 + x.2.2.size)) = fs.flatMap encL ++ rest := by
      rw [← List.drop_drop, hd', ← hl, List.drop_left]
    have hw2 : t + ((x :: fs).flatMap encL).length = (t + (7 + x.2.2.size)) + (fs.flatMap encL).length := by rw [List.flatMap_cons, List.length_append, hl]; omega
    have hi := ih g (t + (7 + x.2.2.size)) (fun y hy => hm y (List.mem_cons_of_mem _ hy)) (by simpa using hf) hd2 (by rw [← hw2]; exact hw)
    rw [spl_step s g t (by omega), h1, h2, hi, hw2, List.flatMap_cons]

theorem encL_pos (x : Nat × Nat × ByteArray) : 7 ≤ (encL x).length := by unfold encL; rw [← size_list, streamB_size]; omega
theorem flat_len (fs : List (Nat × Nat × ByteArray)) : fs.length ≤ (fs.flatMap encL).length := by
  induction fs with
  | nil => exact Nat.zero_le _
  | cons x fs ih => rw [List.flatMap_cons, List.length_append, List.length_cons]; have := encL_pos x; omega


/-- One request alone. -/
theorem split_one (m u : Nat) (b : ByteArray) (hx : May (m, u, b)) : splF (streamB m u b) = (frC (m, u, b), 7 + b.size) ∧ brk ((streamB m u b).extract (7 + b.size) (streamB m u b).size) = false := by
  have hz := streamB_size m u b
  have hw : wholeAt (streamB m u b) (7 + b.size) = 0 := wholeAt_none _ _ (.inl (by omega))
  refine ⟨?_, ?_⟩
  · have hl : (encL (m, u, b)).length = 7 + b.size := by unfold encL; rw [← size_list, streamB_size]
    have h := spl_all (streamB m u b) [] [(m, u, b)] ((streamB m u b).size + 1) 0 (fun x h => by rw [List.mem_singleton.1 h]; exact hx) (by simp; omega) (by simp [encL]) (by
      have e : ([(m, u, b)].flatMap encL) = encL (m, u, b) := by simp
      rw [e, hl, Nat.zero_add]; exact hw)
    unfold splF
    rw [h]
    have e : ([(m, u, b)].flatMap encL) = encL (m, u, b) := by simp
    rw [e, hl, Nat.zero_add]
    simp
  · exact brkAt_false _ _ (byt_end _ _ (by omega)) (byt_end _ _ (by omega)) (byt_end _ _ (by omega)) (fun h => by omega)
end Pl
end Go.Proofs.YtcpldcojckhapaaGreat
