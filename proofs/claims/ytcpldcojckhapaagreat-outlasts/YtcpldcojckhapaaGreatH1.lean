/-
  A Stream line that hears some bytes: what it answers, and what it keeps.
-/
import Derived.Test.YtcpldcojckhapaaGreatV0
import Derived.Test.YtcpldcojckhapaaGreatSpl
set_option maxRecDepth 100000
namespace Go.Proofs.YtcpldcojckhapaaGreat
open Go.RowKit

/-- A Stream line behind a splitting. -/
def heardL (all : ByteArray) (t : Nat) (k : Int) : Ln := if k = 0 then ⟨0, all.extract t all.size, false⟩ else ⟨0, ⟨#[]⟩, true⟩
theorem SplIs.le {s : ByteArray} {acc : List Value} {t : Nat} {k : Int} (h : SplIs s acc t k) : t ≤ s.size := by
  have := (Pl.spl_end s (s.size + 1) 0 (Nat.zero_le _)).2
  have e : Pl.spl s (s.size + 1) 0 = (acc, t) := h.1
  rw [e] at this
  exact this
theorem SplIs.code {s : ByteArray} {acc : List Value} {t : Nat} {k : Int} (h : SplIs s acc t k) : k = 0 ∨ k = 4 := by
  have := h.2
  by_cases hb : Pl.brk (s.extract t s.size) = true
  · rw [if_pos hb] at this; exact .inr this
  · rw [if_neg hb] at this; exact .inl this
theorem line_set {w : World} {L n i : Nat} {ln : Nat → Ln} {x : Ln} {v : Value} {j : Nat} (hG : Grid w L 116 n 3 (fun a b => lnc (ln a) b)) (hi : i < n) (hj : j < 3) (hv : lnc x j = v) (hx : ∀ b, b < 3 → b ≠ j → lnc x b = lnc (ln i) b) :
    Grid (w.setCell ⟨L, i * 3 + j, none⟩ v) L 116 n 3 (fun a b => lnc (if a = i then x else ln a) b) := by
  refine (hG.set hi hj v).congr fun a b _ hb => ?_
  by_cases e : a = i ∧ b = j
  · rw [if_pos e, if_pos e.1, e.2, hv]
  · rw [if_neg e]
    by_cases e1 : a = i
    · rw [if_pos e1, hx b hb (fun h => e ⟨e1, h⟩), e1]
    · rw [if_neg e1]

set_option maxRecDepth 100000 in
set_option maxHeartbeats 1000000 in
theorem hear_stream (L i n : Nat) (ln : Nat → Ln) (s : ByteArray) (w : World) (hG : Grid w L 116 n 3 (fun a j => lnc (ln a) j)) (hi : i < n) (hk : (ln i).kind = 0) (hbr : (ln i).broken = false) (hs : ((ln i).bytes ++ s).size ≤ 4194304) :
    Calls Tryz.prog 56 #[.pointer (some ⟨L, i * 3, none⟩), .string s] w fun e w' => ∃ v m acc t k, e = .returned v ∧ w'.ownsRow w.heap.size 94 3 v m acc ∧ SplIs ((ln i).bytes ++ s) acc t k ∧ m ≤ 524288 ∧
      Grid w' L 116 n 3 (fun a j => lnc (if a = i then heardL ((ln i).bytes ++ s) t k else ln a) j) ∧ Chg1 L w w' := by
  have c0 : w.cell? ⟨L, i * 3, none⟩ = some (.int .i64 0) := by have := hG.cell hi (j := 0) (by omega); rw [Nat.add_zero] at this; rw [this]; simp [lnc, hk]
  have c1 : w.cell? ⟨L, i * 3 + 1, none⟩ = some (.string (ln i).bytes) := by have := hG.cell hi (j := 1) (by omega); rw [this]; simp [lnc]
  have c2 : w.cell? ⟨L, i * 3 + 2, none⟩ = some (.bool false) := by have := hG.cell hi (j := 2) (by omega); rw [this]; simp [lnc, hbr]
  have HG := hideF hG
  have hLs := hG.lt
  obtain ⟨A, hA⟩ : ∃ A, A = (ln i).bytes := ⟨_, rfl⟩
  have HA := hideF hA
  rw [← hA] at hs c1 ⊢
  clear hA hG
  have hz : A.size + s.size ≤ 4194304 := by rw [ByteArray.size_append] at hs; exact hs
  have hlim : ¬ 9223372036854775807 < A.size + s.size := by omega
  have HK := hideF hk
  have HBR := hideF hbr
  clear hk hbr
  go_enter Tryz.func56, Tryz.ntmps56
  go_wp2_with fail
  refine (split_core (A ++ s) _ hs).mono ?_
  rintro e w1 ⟨v, m, acc, t, k, rfl, hown, hspl, hm, hb1⟩
  have ht := hspl.le
  have HS := hideF hspl
  have HO := hideF hown
  have HB := hideF hb1
  have hc1 := bcell hb1
  have hk := hspl.code
  clear hspl hown hb1 c0 c1 c2
  obtain ⟨S, hS⟩ : ∃ S, S = A ++ s := ⟨_, rfl⟩
  rw [← hS] at ht HS hs ⊢
  have HSE := hideF hS
  clear hS
  go_wp2_with fail
  refine (clone_any _ _ (by simp; omega)).mono ?_
  rintro e w2 ⟨rfl, hb2⟩
  have HG2 := hideF (HG.out.below (bel_then HB.out hb2) hLs)
  have HB2 := hideF (bel_then HB.out hb2)
  have HO2 := hideF (ownsRow_below HO.out hb2)
  have hf2 := HG2.out.frozen (i * 3 + 1)
  have hf3 := HG2.out.frozen (i * 3 + 2)
  have d1 := HG2.out.cell hi (j := 1) (by omega)
  have d2 := HG2.out.cell hi (j := 2) (by omega)
  clear HG HO HB hb2 hc1
  rcases hk with rfl | rfl
  · go_wp2_with fail
    go_ret
    rw [← HSE.out]
    refine ⟨_, m, acc, t, 0, rfl, own_same HO2.out (fun g hg => heap_setCell_other _ _ _ _ (by have := (HO2.out.lt g hg).1; simp; omega)), HS.out, hm, ?_, (Chg1.of_below L HB2.out).setCell _ _⟩
    refine line_set HG2.out hi (by omega) rfl fun b hb hne => ?_
    rcases (show b = 0 ∨ b = 2 by omega) with rfl | rfl
    · simp [lnc, heardL, HK.out]
    · simp [lnc, heardL, HBR.out]
  · go_wp2_with fail
    go_ret
    rw [← HSE.out]
    refine ⟨_, m, acc, t, 4, rfl, own_same HO2.out (fun g hg => ?_), HS.out, hm, ?_, (((Chg1.of_below L HB2.out).setCell _ _).setCell _ _).setCell _ _⟩
    · have h := (HO2.out.lt g hg).1
      rw [heap_setCell_other _ _ _ _ (by simp; omega), heap_setCell_other _ _ _ _ (by simp; omega), heap_setCell_other _ _ _ _ (by simp; omega)]
    · have g1 := line_set (x := ⟨0, S.extract t S.size, false⟩) (v := .string (S.extract t S.size)) HG2.out hi (j := 1) (by omega) rfl (fun b hb hne => by
        rcases (show b = 0 ∨ b = 2 by omega) with rfl | rfl
        · simp [lnc, HK.out]
        · simp [lnc, HBR.out])
      have g2 := line_set (x := ⟨0, ⟨#[]⟩, false⟩) (v := .string ⟨#[]⟩) g1 hi (j := 1) (by omega) rfl (fun b hb hne => by
        rcases (show b = 0 ∨ b = 2 by omega) with rfl | rfl
        · simp [lnc]
        · simp [lnc])
      have g3 := line_set (x := ⟨0, ⟨#[]⟩, true⟩) (v := .bool true) g2 hi (j := 2) (by omega) rfl (fun b hb hne => by
        rcases (show b = 0 ∨ b = 1 by omega) with rfl | rfl
        · simp [lnc]
        · simp [lnc])
      refine g3.congr fun a b _ _ => ?_
      by_cases e : a = i
      · simp [e, heardL]
      · simp [e]
end Go.Proofs.YtcpldcojckhapaaGreat
