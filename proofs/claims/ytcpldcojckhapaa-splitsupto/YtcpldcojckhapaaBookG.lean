/-
  The book of package latchlaw: 'frame': a list that came out is taken in; the one ahead of it is marked and recorded.
-/
import Derived.Test.YtcpldcojckhapaaBookF
import Derived.Laws.AppendOwnNone
set_option maxRecDepth 100000
namespace Go.Proofs.Ytcpldcojckhapaa
open Go.RowKit

theorem frs_one (fs : List (Nat × Nat × ByteArray)) : ∀ u ∈ fs.flatMap Pl.frC, u.oneCell' = true := by
  intro u hu
  obtain ⟨x, _, hx⟩ := List.mem_flatMap.1 hu
  simp [Pl.frC] at hx
  rcases hx with rfl | rfl | rfl <;> rfl

set_option maxRecDepth 100000 in
set_option maxHeartbeats 4000000 in
theorem bookFrame_any (w : World) (B kb : Nat) (c0 vF c2 c3 c5 c6 vC vW c9 c10 c11 c12 vL : Value) (N : Nat) (P : Nat → Prop) (fs0 fs : List (Nat × Nat × ByteArray))
    (hkb : w.heap[kb]? = some (.cells #[c0, vF, c2, c3, .bool false, c5, c6, vC, vW, c9, c10, c11, c12] 35 (0, 0)))
    (hL : ListsIn w B 31 40 3 mkF vF N P) (hap : ∀ g, P g → vC.ownBlock ≠ some g)
    (hC : w.ownsRow B 40 3 vC fs0.length (fs0.flatMap Pl.frC)) (hW : w.ownsRow B 40 3 vW fs0.length (fs0.flatMap Pl.frC)) (hN : N % 4 = 0) (hN2 : N ≤ 900) (hfs0 : fs0.length ≤ 1000000) (hfs : fs.length ≤ 1000000) (hB : B ≤ w.heap.size)
    (hV : w.ownsRow B 40 3 vL fs.length (fs.flatMap Pl.frC)) (hVC : ∀ g, vL.ownBlock = some g → vC.ownBlock ≠ some g) :
    Calls Try.prog 13 #[.pointer (some ⟨kb, 0, none⟩), vL] w fun e w' => e = .returned (.tuple #[]) ∧ ∃ vF' vW', w'.heap[kb]? = some (.cells #[c0, vF', c2, c3, .bool false, c5, c6, vL, vW', c9, c10, c11, c12] 35 (0, 0)) ∧
      ListsIn w' B 31 40 3 mkF vF' (N + 4) (fun g => P g ∨ vC.ownBlock = some g ∨ w.heap.size ≤ g) ∧ w'.ownsRow B 40 3 vL fs.length (fs.flatMap Pl.frC) ∧ w'.ownsRow B 40 3 vW' fs.length (fs.flatMap Pl.frC) ∧ Foot w w' kb vF vC := by
  have hlt := lt_of_block hkb
  obtain ⟨i40, hj1, hj2, hj3, hj4⟩ := info_parts Try.info40
  have hlen3 := frC_len fs
  -- what follows the copy
  have tail : ∀ (w1 : World) (vW' : Value), w.grownBy w1 none → w1.ownsRow B 40 3 vW' fs.length (fs.flatMap Pl.frC) → (∀ g, vW'.ownBlock = some g → w.heap.size ≤ g) → ∀ (R : Ending → World → Prop),
      (∀ w2 vF', w2.heap[kb]? = some (.cells #[c0, vF', c2, c3, .bool false, c5, c6, .slice none 0 0, .slice none 0 0, c9, c10, c11, c12] 35 (0, 0)) → ListsIn w2 B 31 40 3 mkF vF' (N + 4) (fun g => P g ∨ vC.ownBlock = some g ∨ w.heap.size ≤ g) → w2.ownsRow B 40 3 vL fs.length (fs.flatMap Pl.frC) → w2.ownsRow B 40 3 vW' fs.length (fs.flatMap Pl.frC) → Foot w w2 kb vF vC → R (.returned (.tuple #[])) w2) →
      Calls Try.prog 38 #[.pointer (some ⟨kb, 0, none⟩)] w1 R := by
    intro w1 vW' hg hW' hWb R hR
    have hb1 : ∀ k, k < w.heap.size → w1.heap[k]? = w.heap[k]? := fun k hk => hg.block k hk (by simp)
    refine (frameMarked_any w1 B kb c0 vF c2 c3 c5 c6 vC vW c9 c10 c11 c12 N P fs0 ((hb1 kb hlt).trans hkb) (hL.carry (fun k _ _ hc _ _ => hb1 k (lt_of_block hc))) hap (own_same hC (fun g h => hb1 g (hC.lt g h).2)) (own_same hW (fun g h => hb1 g (hW.lt g h).2)) hN hN2 hfs0 (Nat.le_trans hB hg.size)).mono ?_
    rintro e w2 ⟨rfl, vF', hk2, hL2, hF2, _⟩
    have hV1 : w1.ownsRow B 40 3 vL fs.length (fs.flatMap Pl.frC) := own_same hV (fun g h => hb1 g (hV.lt g h).2)
    have hty : ∀ g, (∃ cur, w1.heap[g]? = some (Obj.cells cur 40 (0, 0))) → g ≠ kb ∧ vF.ownBlock ≠ some g := by
      rintro g ⟨cur, hc⟩
      refine ⟨fun ee => ?_, fun ee => ?_⟩
      · rw [ee, (hb1 kb hlt).trans hkb] at hc
        simp at hc
      · obtain ⟨Ls, h1, _⟩ := hL
        obtain ⟨c', h31⟩ := own_block h1 g ee
        rw [hb1 g (h1.lt g ee).2, h31] at hc
        simp at hc
    refine hR w2 vF' hk2 (hL2.weaken (fun g _ hq => ?_)) (own_same hV1 (fun g h => ?_)) (own_same hW' (fun g h => ?_)) ?_
    · rcases hq with r | r | r
      · exact .inl r
      · exact .inr (.inl r)
      · have := hg.size; exact .inr (.inr (by omega))
    · obtain ⟨h1, h2⟩ := hty g (own_block hV1 g h)
      exact hF2.block g (hV1.lt g h).2 h1 h2 (hVC g h)
    · obtain ⟨h1, h2⟩ := hty g (own_block hW' g h)
      exact hF2.block g (hW'.lt g h).2 h1 h2 (fun ee => by have := (hC.lt g ee).2; have := hWb g h; omega)
    · refine ⟨hF2.os.trans hg.os, hF2.tape.trans hg.tape, hF2.output.trans hg.output, Nat.le_trans hg.size hF2.size, fun k hk h1 h2 h3 => ?_⟩
      exact (hF2.block k (Nat.lt_of_lt_of_le hk hg.size) h1 h2 h3).trans (hb1 k hk)
  have TAIL := hideF tail
  clear tail
  have HKB := hideF hkb
  have HV := hideF hV
  clear hkb
  rcases hV.2 with ⟨rfl, h0⟩ | ⟨g, cap, cur, rfl, hb, hgg, r1, r2, r3, r4⟩
  · have hfn : fs.flatMap Pl.frC = [] := List.eq_nil_of_length_eq_zero (by rw [hlen3, h0])
    go_enter Try.func13, Try.ntmps13
    go_wp2_with (at_builtin; refine wpList_append_own_none rfl (.tmp 5) (.tmp 6) 31 rfl B 40 i40 3 Try.underlying31 hj1 (.slice none 0 0) 0 [] rfl (World.ownsRow_nil _ _ _ _) rfl ?_)
    refine TAIL.out _ _ (grown_refl _ _) (by rw [hfn, h0]; exact World.ownsRow_nil _ _ _ _) (fun g hg => by simp [Value.ownBlock] at hg) _ ?_
    intro w2 vF' hk2 hL2 hV2 hW2 hF2
    have e7 : w2.cell? ⟨kb, 7, none⟩ = some (.slice none 0 0) := by rw [cell_of_row w2 kb 7 _ 35 (0, 0) hk2]; rfl
    have e8 : w2.cell? ⟨kb, 8, none⟩ = some (.slice none 0 0) := by rw [cell_of_row w2 kb 8 _ 35 (0, 0) hk2]; rfl
    have f2 : ∀ j, w2.frozen? ⟨kb, j, none⟩ = false := fun j => frozen_of_row w2 kb j _ 35 hk2
    have HK2 := hideF hk2
    have HL2 := hideF hL2
    have HV2 := hideF hV2
    have HW2 := hideF hW2
    have HF2 := hideF hF2
    clear hk2 hL2 hV2 hW2 hF2 hL hap hC hW
    go_wp2
    go_end0
    have hother : ∀ k cur t, w2.heap[k]? = some (Obj.cells cur t (0, 0)) → t ≠ 35 → ((w2.setCell ⟨kb, 7, none⟩ (.slice none 0 0)).setCell ⟨kb, 8, none⟩ (.slice none 0 0)).heap[k]? = w2.heap[k]? := fun k cur t hc ht => by
      have hk : k ≠ kb := fun ee => by
        rw [ee, HK2.out] at hc
        simp at hc
        exact ht hc.2.symm
      rw [heap_setCell_other _ _ _ _ hk, heap_setCell_other _ _ _ _ hk]
    refine ⟨rfl, vF', .slice none 0 0, ?_, ?_, ?_, ?_, ?_⟩
    · have h7 := heap_setCell_same w2 kb 7 _ 35 (.slice none 0 0) HK2.out
      exact heap_setCell_same _ kb 8 _ 35 (.slice none 0 0) h7
    · exact HL2.out.carry (fun k cur t hc _ ht => hother k cur t hc (fun ee => by subst ee; rcases ht with r | r <;> exact absurd r (by decide)))
    · exact own_same HV2.out (fun g hg => by obtain ⟨c, hc⟩ := own_block HV2.out g hg; exact hother g c 40 hc (by decide))
    · exact own_same HW2.out (fun g hg => by obtain ⟨c, hc⟩ := own_block HW2.out g hg; exact hother g c 40 hc (by decide))
    · exact (HF2.out.setCell _ _ (.inl rfl)).setCell _ _ (.inl rfl)
  · clear hV
    go_enter Try.func13, Try.ntmps13
    go_wp2_with (at_builtin; refine wpList_append_keep rfl (.tmp 5) (.tmp 6) 31 rfl B 40 i40 (.agg #[.int .i64 0, .int .i64 0, .string ⟨#[]⟩]) 3 32 Try.underlying31 hj1 hj2 hj3 hj4 rfl (by decide) (.slice none 0 0) 0 [] rfl (World.ownsRow_nil _ _ _ _) ⟨g, 0, none⟩ fs.length cap (fs.flatMap Pl.frC) rfl hlen3 (HV.out.cells rfl) (frs_one fs) (by unfold maxLen; omega) (by omega) hB ?_; intro vW' w1 hown1 hgr1 _ hfr1)
    simp only [Nat.zero_add, List.nil_append] at hown1
    refine TAIL.out _ _ hgr1 hown1 (fun g hg => (hfr1 g hg).elim (fun ee => by simp [Value.ownBlock] at ee) id) _ ?_
    intro w2 vF' hk2 hL2 hV2 hW2 hF2
    obtain ⟨aW2, cW2, rfl, _⟩ := own_view hW2
    have e7 : w2.cell? ⟨kb, 7, none⟩ = some (.slice none 0 0) := by rw [cell_of_row w2 kb 7 _ 35 (0, 0) hk2]; rfl
    have e8 : w2.cell? ⟨kb, 8, none⟩ = some (.slice none 0 0) := by rw [cell_of_row w2 kb 8 _ 35 (0, 0) hk2]; rfl
    have f2 : ∀ j, w2.frozen? ⟨kb, j, none⟩ = false := fun j => frozen_of_row w2 kb j _ 35 hk2
    have HK2 := hideF hk2
    have HL2 := hideF hL2
    have HV2 := hideF hV2
    have HW2 := hideF hW2
    have HF2 := hideF hF2
    clear hk2 hL2 hV2 hW2 hF2 hL hap hC hW
    go_wp2
    go_end0
    have hother : ∀ k cur t, w2.heap[k]? = some (Obj.cells cur t (0, 0)) → t ≠ 35 → ((w2.setCell ⟨kb, 7, none⟩ (.slice (some ⟨g, 0, none⟩) fs.length cap)).setCell ⟨kb, 8, none⟩ (.slice aW2 fs.length cW2)).heap[k]? = w2.heap[k]? := fun k cur t hc ht => by
      have hk : k ≠ kb := fun ee => by
        rw [ee, HK2.out] at hc
        simp at hc
        exact ht hc.2.symm
      rw [heap_setCell_other _ _ _ _ hk, heap_setCell_other _ _ _ _ hk]
    refine ⟨rfl, vF', .slice aW2 fs.length cW2, ?_, ?_, ?_, ?_, ?_⟩
    · have h7 := heap_setCell_same w2 kb 7 _ 35 (.slice (some ⟨g, 0, none⟩) fs.length cap) HK2.out
      exact heap_setCell_same _ kb 8 _ 35 (.slice aW2 fs.length cW2) h7
    · exact HL2.out.carry (fun k cur t hc _ ht => hother k cur t hc (fun ee => by subst ee; rcases ht with r | r <;> exact absurd r (by decide)))
    · exact own_same HV2.out (fun g hg => by obtain ⟨c, hc⟩ := own_block HV2.out g hg; exact hother g c 40 hc (by decide))
    · exact own_same HW2.out (fun g hg => by obtain ⟨c, hc⟩ := own_block HW2.out g hg; exact hother g c 40 hc (by decide))
    · exact (HF2.out.setCell _ _ (.inl rfl)).setCell _ _ (.inl rfl)
end Go.Proofs.Ytcpldcojckhapaa
