/-
  Package store: a disk of two sectors, whatever lies there: which copy is the latest, and what it holds.
-/
import Derived.Test.YtcpldcojckhapaaGreatV1
import Derived.Test.YtcpldcojckhapaaGreatP4
set_option maxRecDepth 100000
namespace Go.Proofs.YtcpldcojckhapaaGreat
open Go.RowKit

/-- Which of two copies is the latest, and its stamp. -/
def latL (a c : Nat) : Nat := if c ≠ 0 ∧ (a = 0 ∨ c = a % 3 + 1) then 1 else 0
def stL (a c : Nat) : Nat := if c ≠ 0 ∧ (a = 0 ∨ c = a % 3 + 1) then c else a
theorem stampL_le (s : ByteArray) : stampL s ≤ 3 := by unfold stampL; split <;> omega
theorem latL_le (a c : Nat) : latL a c ≤ 1 := by unfold latL; split <;> omega
theorem stL_le {a c : Nat} (ha : a ≤ 3) (hc : c ≤ 3) : stL a c ≤ 3 := by unfold stL; split <;> omega
theorem store_set {w : World} {b : Nat} {x y z : Value} (p q : Value) (h : w.heap[b]? = some (.cells #[x, y, z] 155 (0, 0))) : ((w.setCell ⟨b, 1, none⟩ p).setCell ⟨b, 2, none⟩ q).heap[b]? = some (.cells #[x, p, q] 155 (0, 0)) := by
  have h1 := heap_setCell_same w b 1 _ 155 p h
  exact heap_setCell_same _ b 2 _ 155 q h1

set_option maxRecDepth 100000 in
set_option maxHeartbeats 2000000 in
theorem findLatest_any (b g k a c lat st : Nat) (A B : ByteArray) (w : World) (hk : 2 ≤ k) (hS : w.heap[b]? = some (.cells #[.int .i64 1, .int .i64 0, .int .u8 0] 155 (0, 0))) (h0 : w.cell? ⟨g, 0, none⟩ = some (.string A)) (h1 : w.cell? ⟨g, 1, none⟩ = some (.string B))
    (hA : A.size = 64) (hB : B.size = 64) (sA : a = stampL A) (sB : c = stampL B) (hl : lat = latL a c) (hst : st = stL a c) :
    Calls Tryz.prog 92 #[.pointer (some ⟨b, 0, none⟩), .slice (some ⟨g, 0, none⟩) 2 k] w fun e w' => e = .returned (.tuple #[]) ∧ w'.heap[b]? = some (.cells #[.int .i64 1, .int .i64 (lat : Nat), .int .u8 (st : Nat)] 155 (0, 0)) ∧ Chg1 b w w' := by
  have ha3 : a ≤ 3 := by rw [sA]; exact stampL_le A
  have hc3 : c ≤ 3 := by rw [sB]; exact stampL_le B
  have HA := hideF hA
  have HB := hideF hB
  have HSA := hideF sA
  have HSB := hideF sB
  have HL := hideF hl
  have HT := hideF hst
  obtain ⟨b0, b1, b2, bf⟩ := cells3f hS
  have HS := hideF hS
  clear hA hB sA sB hl hst hS
  go_enter Tryz.func92, Tryz.ntmps92
  go_wp2_with fail
  refine (copyOn_0 b g k _ hk b0).mono ?_
  rintro e w1 ⟨rfl, n1, rfl⟩
  go_wp2_with fail
  refine (stampOf_at g 0 k a A _ (by simpa using h0) HA.out HSA.out).mono ?_
  rintro e w2 ⟨rfl, rfl⟩
  go_wp2_with fail
  refine (copyOn_1 b g k _ hk (by simpa using b0)).mono ?_
  rintro e w3 ⟨rfl, n3, rfl⟩
  go_wp2_with fail
  refine (stampOf_at g 1 (k - 1) c B _ (by simpa using h1) HB.out HSB.out).mono ?_
  rintro e w4 ⟨rfl, rfl⟩
  obtain ⟨W, hW⟩ : ∃ W, W = w.drewN (n1 + n3) := ⟨_, rfl⟩
  rw [← hW]
  have HWS : Hid (W.heap[b]? = some (.cells #[.int .i64 1, .int .i64 0, .int .u8 0] 155 (0, 0))) := by show _ = _; rw [hW]; simpa using HS.out
  have HWC : Hid (Chg1 b w W) := by rw [hW]; exact (Chg1.refl b w).drewN _
  obtain ⟨x0, x1, x2, xf⟩ := cells3f HWS.out
  clear hW b0 b1 b2 bf h0 h1
  have fin : ∀ p q : Value, p = .int .i64 (lat : Nat) → q = .int .u8 (st : Nat) → ((W.setCell ⟨b, 1, none⟩ p).setCell ⟨b, 2, none⟩ q).heap[b]? = some (.cells #[.int .i64 1, .int .i64 (lat : Nat), .int .u8 (st : Nat)] 155 (0, 0)) ∧ Chg1 b w ((W.setCell ⟨b, 1, none⟩ p).setCell ⟨b, 2, none⟩ q) := by
    rintro p q rfl rfl
    exact ⟨store_set _ _ HWS.out, (HWC.out.setCell _ _).setCell _ _⟩
  have HFI := hideF fin
  clear fin
  rcases Nat.eq_zero_or_pos c with rfl | hc
  · have HC1 : Hid (lat = 0 ∧ st = a) := by have h1 := HL.out; have h2 := HT.out; unfold latL at h1; unfold stL at h2; simp at h1 h2; exact ⟨h1, h2⟩
    rcases Nat.eq_zero_or_pos a with rfl | ha
    · go_wp2
      go_end0
      refine ⟨rfl, ?_, HWC.out⟩
      rw [HC1.out.1, HC1.out.2]; exact HWS.out
    · have ta : ((a : Int) != 0) = true := by simp; omega
      go_wp2
      go_end0
      exact ⟨rfl, HFI.out _ _ (by rw [HC1.out.1]; rfl) (by rw [HC1.out.2])⟩
  · have tc : ((c : Int) != 0) = true := by simp; omega
    rcases Nat.eq_zero_or_pos a with rfl | ha
    · have HC1 : Hid (lat = 1 ∧ st = c) := by have h1 := HL.out; have h2 := HT.out; unfold latL at h1; unfold stL at h2; rw [if_pos ⟨by omega, .inl rfl⟩] at h1 h2; exact ⟨h1, h2⟩
      go_wp2
      go_end0
      exact ⟨rfl, HFI.out _ _ (by rw [HC1.out.1]; rfl) (by rw [HC1.out.2])⟩
    · have ta : ((a : Int) == 0) = false := by simp; omega
      have ta2 : ((a : Int) != 0) = true := by simp; omega
      obtain ⟨m, hm⟩ : ∃ m, m = a % 3 + 1 := ⟨_, rfl⟩
      have HM := hideF hm
      clear hm
      by_cases hn : c = m
      · have HC1 : Hid (lat = 1 ∧ st = c) := by have h1 := HL.out; have h2 := HT.out; have := HM.out; unfold latL at h1; unfold stL at h2; rw [if_pos ⟨by omega, .inr (by omega)⟩] at h1 h2; exact ⟨h1, h2⟩
        subst hn
        go_wp2_with fail
        refine (next_at a c HM.out _ (by omega)).mono ?_
        rintro e w5 ⟨rfl, rfl⟩
        go_wp2
        go_end0
        exact ⟨rfl, HFI.out _ _ (by rw [HC1.out.1]; rfl) (by rw [HC1.out.2])⟩
      · have HC1 : Hid (lat = 0 ∧ st = a) := by have h1 := HL.out; have h2 := HT.out; have := HM.out; unfold latL at h1; unfold stL at h2; rw [if_neg (by omega)] at h1 h2; exact ⟨h1, h2⟩
        have tn : ((c : Int) == (m : Int)) = false := by simp; omega
        go_wp2_with fail
        refine (next_at a m HM.out _ (by omega)).mono ?_
        rintro e w5 ⟨rfl, rfl⟩
        go_wp2
        go_end0
        exact ⟨rfl, HFI.out _ _ (by rw [HC1.out.1]; rfl) (by rw [HC1.out.2])⟩

theorem copyOn_any (b g k o : Nat) (w : World) (hk : 2 ≤ k) (ho : o ≤ 1) (hb : w.cell? ⟨b, 0, none⟩ = some (.int .i64 1)) :
    Calls Tryz.prog 95 #[.pointer (some ⟨b, 0, none⟩), .slice (some ⟨g, 0, none⟩) 2 k, .int .i64 (o : Nat)] w fun e w' => e = .returned (.slice (some ⟨g, o, none⟩) 1 (k - o)) ∧ ∃ n, w' = w.drewN n := by
  rcases (show o = 0 ∨ o = 1 by omega) with rfl | rfl
  · exact copyOn_0 b g k w hk hb
  · exact copyOn_1 b g k w hk hb

theorem strCells_eq (s : ByteArray) : Lib.strCells s = Lib.byteCells s.data.toList := rfl
set_option maxRecDepth 100000 in
set_option maxHeartbeats 2000000 in
theorem contents_any (g o k : Nat) (s t : ByteArray) (w : World) (hc : w.cell? ⟨g, o, none⟩ = some (.string s)) (hg : g < w.heap.size) (hs : s.size = 64) (ht : t = s.extract 1 63) :
    Calls Tryz.prog 94 #[.slice (some ⟨g, o, none⟩) 1 k] w fun e w' => e = .returned (.string t) ∧ Below w.heap.size w w' := by
  obtain ⟨W, hW⟩ : ∃ W, W = w.alloc (.cells #[.pointer none, .slice none 0 0] 203) := ⟨_, rfl⟩
  have hWb : Below w.heap.size w W := by rw [hW]; exact bel_alloc (Below.refl _ _) _
  have hWI : Lib.IsBuilder 203 5 w.heap.size w.heap.size [] W := by rw [hW]; exact Lib.fresh_isBuilder 203 5 w
  have hWc : W.cell? ⟨g, o, none⟩ = some (.string s) := by rw [(bcell hWb).1 g o hg]; exact hc
  have hsz := hWb.size
  have hts : t.size = 62 := by rw [ht, ByteArray.size_extract]; omega
  have HWB := hideF hWb
  have HWI := hideF hWI
  have HS := hideF hs
  have HT := hideF ht
  have HTS := hideF hts
  have h1s : (1 : Nat) ≤ 63 ∧ 63 ≤ s.size := by omega
  clear hWb hWI hs ht hc hts
  go_enter Tryz.func94, Tryz.ntmps94
  go_wp2_with fail
  rw [← hW]
  clear hW
  go_loopw [8] (fun i wr => (i = .int .i64 0 ∧ wr = W) ∨ (i = .int .i64 1 ∧ Lib.BuilderAt 203 5 w.heap.size w.heap.size (.pointer (some ⟨w.heap.size, 0, none⟩)) (Lib.strCells t) wr ∧ Below w.heap.size w wr)) (fun i _ => 1 - (intOf i).toNat)
  case atStart => exact .inl ⟨rfl, rfl⟩
  case round =>
    rcases hrel with ⟨rfl, rfl⟩ | ⟨rfl, hB, hb⟩
    · go_wp2_with fail
      try rw [← HT.out]
      refine (Go.Proofs.Any.Builder_WriteString (ρ := layRep_ren) { layRep with } layRepX w.heap.size w.heap.size [] t _ HWI.out (by rw [HTS.out]; simp) (by omega)).mono ?_
      rintro e w2 ⟨rfl, hB2, hb2⟩
      have HB2 := hideF hB2
      have Hb2 := hideF (HWB.out.trans hb2)
      clear hB2 hb2
      go_wp2_with fail
      go_roundw
      case rel => exact .inr ⟨by go_num, by have h := HB2.out; rw [List.nil_append] at h; exact h, Hb2.out⟩
      case measure => simp [intOf]
    · have HB := hideF hB
      have Hb := hideF hb
      clear hB hb
      go_wp2_with fail
      refine (Go.Proofs.Any.Builder_String (ρ := layRep_ren) { layRep with } layRepX w.heap.size w.heap.size t.data.toList _ (.inr (by rw [← strCells_eq]; exact HB.out)) (by intro e; have h := HTS.out; have h2 : t.data.toList.length = 62 := h; rw [e] at h2; simp at h2)).mono ?_
      rintro e w3 ⟨rfl, hb3⟩
      have Hb3 := hideF (Hb.out.trans hb3)
      clear hb3
      go_wp2
      go_ret
      exact ⟨rfl, Hb3.out⟩
end Go.Proofs.YtcpldcojckhapaaGreat
