/-
  The book of package latchlaw: 'textMarked', where no list of its kind came: four lists are recorded.
-/
import Derived.Test.YtcpldcojckhapaaBookF
import Derived.Test.YtcpldcojckhapaaBookS
import Derived.Deep.Cut
import Derived.Deep.CutRange
set_option maxRecDepth 100000
namespace Go.Proofs.Ytcpldcojckhapaa
open Go.RowKit

theorem mkT_eq (N : Nat) : mkT N = [.string (wordB N)] := rfl
set_option maxRecDepth 100000 in
set_option maxHeartbeats 8000000 in
theorem textMarked_any (w : World) (B kb : Nat) (c0 c1 c2 c5 c6 c7 c8 c11 c12 vF : Value) (N : Nat) (P : Nat → Prop)
    (hkb : w.heap[kb]? = some (.cells #[c0, c1, c2, vF, .bool false, c5, c6, c7, c8, .slice none 0 0, .slice none 0 0, c11, c12] 35 (0, 0)))
    (hL : ListsIn w B 32 9 1 mkT vF N P) (hN : N % 4 = 0) (hN2 : N ≤ 900) (hB : B ≤ w.heap.size) :
    Calls Try.prog 42 #[.pointer (some ⟨kb, 0, none⟩)] w fun e w' => e = .returned (.tuple #[]) ∧ ∃ vF', w'.heap[kb]? = some (.cells #[c0, c1, c2, vF', .bool false, c5, c6, c7, c8, .slice none 0 0, .slice none 0 0, c11, c12] 35 (0, 0)) ∧
      ListsIn w' B 32 9 1 mkT vF' (N + 4) (fun g => P g ∨ w.heap.size ≤ g) ∧ Foot w w' kb vF (.slice none 0 0) ∧ ∀ g, vF'.ownBlock = some g → vF.ownBlock = some g ∨ w.heap.size ≤ g := by
  have hlt := lt_of_block hkb
  have bO : w.cell? ⟨kb, 3, none⟩ = some vF := by rw [cell_of_row w kb 3 _ 35 (0, 0) hkb]; rfl
  have bC : w.cell? ⟨kb, 9, none⟩ = some (.slice none 0 0) := by rw [cell_of_row w kb 9 _ 35 (0, 0) hkb]; rfl
  obtain ⟨Ls0, hL1, hL2⟩ := hL
  obtain ⟨aF, cF, rfl, _⟩ := own_view hL1
  have HLI : ListsIn w B 32 9 1 mkT (.slice aF N cF) N P := ⟨Ls0, hL1, hL2⟩
  clear hL1 hL2
  have HKB := hideF hkb
  clear hkb
  go_enter Try.func42, Try.ntmps42
  go_wp2_with fail
  refine wp_loop_rounds 1 ?_
  rw [rounds_succ]
  go_wp2_with fail
  refine (wordL_any N _ (by omega)).mono ?_
  rintro e w1 ⟨rfl, hb1⟩
  go_wp2_with fail
  refine wp_loop_rounds 1 ?_
  rw [rounds_succ]
  go_wp2_with fail
  obtain ⟨cs, hcs⟩ : ∃ cs : Value → Array Value, cs = fun x => #[c0, c1, c2, x, .bool false, c5, c6, c7, c8, .slice none 0 0, .slice none 0 0, c11, c12] := ⟨_, rfl⟩
  obtain ⟨Q, hQ⟩ : ∃ Q : Nat → Prop, Q = fun g => P g ∨ w.heap.size ≤ g := ⟨_, rfl⟩
  have hst : MarkSt w w1 B kb kb cs none 32 9 1 mkT Q N 0 (.slice aF N cF) (.slice none 0 0) (.slice aF N cF) (.slice none 0 0) 0 := by
    refine ⟨Rec.start (HLI.below hb1) (World.ownsRow_nil _ _ _ _) (fun g _ ee => by simp [Value.ownBlock] at ee) (fun g hg => by rw [hQ]; exact .inl hg) (fun g hg => by simp [Value.ownBlock] at hg), ?_, ?_, ?_, fun g hg => .inl hg, fun g hg => .inl hg⟩
    · rw [hb1.block kb hlt, HKB.out, hcs]
    · intro c hc; simp at hc
    · exact ⟨hb1.os, hb1.tape, hb1.output, hb1.size, fun k hk _ _ _ => hb1.block k hk⟩
  have HST := hideF hst
  have HCSJ := hideF (show ∀ a b, (cs a).setIfInBounds 3 b = cs b by rw [hcs]; intro a b; rfl)
  have HCS : Hid (cs = fun x => #[c0, c1, c2, x, .bool false, c5, c6, c7, c8, .slice none 0 0, .slice none 0 0, c11, c12]) := hcs
  have HQ : Hid (Q = fun g => P g ∨ w.heap.size ≤ g) := hQ
  have hz1 := hb1.size
  clear hst hcs hQ bO bC hb1
  obtain ⟨iO, hi1, hi2, hi3, hi4⟩ := info_parts Try.info32
  obtain ⟨iE, hj1, hj2, hj3, hj4⟩ := info_parts Try.info9
  go_loopw [2, 6] (fun l i wr => ∃ (q m : Nat) (v vO : Value), q ≤ 4 ∧ i = .int .i64 (q : Nat) ∧ l = v ∧ m ≤ 64 * q ∧ MarkSt w wr B kb kb cs none 32 9 1 mkT Q N q (.slice aF N cF) (.slice none 0 0) vO v m) (fun _ i _ => 4 - (intOf i).toNat)
  case atStart => exact ⟨0, 0, _, _, by omega, rfl, rfl, by omega, HST.out⟩
  case round =>
    obtain ⟨q, m, v, vO, hq4, rfl, rfl, hm, st⟩ := hrel
    obtain ⟨Ls, hLs, _⟩ := st.rec_.outer
    obtain ⟨aV, cV, rfl, _⟩ := own_view st.rec_.list
    have hsz := st.foot.size
    have hbook := st.book
    rw [HCS.out] at hbook
    have k1 : wr.cell? ⟨kb, 3, none⟩ = some vO := by rw [cell_of_row wr kb 3 _ 35 (0, 0) hbook]; rfl
    have k7 : ∃ u, wr.cell? ⟨kb, 9, none⟩ = some u := ⟨_, by rw [cell_of_row wr kb 9 _ 35 (0, 0) hbook]; rfl⟩
    have k8 : ∃ u, wr.cell? ⟨kb, 10, none⟩ = some u := ⟨_, by rw [cell_of_row wr kb 10 _ 35 (0, 0) hbook]; rfl⟩
    have kf : ∀ j, wr.frozen? ⟨kb, j, none⟩ = false := fun j => frozen_of_row wr kb j _ 35 hbook
    have HST3 := hideF st
    have HLS := hideF hLs
    clear hbook
    by_cases hq : q < 4
    · go_upto_region 14 with (at_builtin; refine wpList_append_keep rfl (.tmp 63) (.tmp 65) 29 rfl B 32 iO (.slice none 0 0) 1 24 Try.underlying29 hi1 hi2 hi3 hi4 rfl (by decide) vO (N + q) Ls rfl (HLS.out.alloc _) ⟨wr.heap.size, 0, none⟩ 1 1 [.slice aV m cV] rfl rfl (cell_one_new _ _ _) (by intro u hu; simp at hu; subst hu; rfl) (by unfold maxLen; omega) (by omega) (by simp; omega) ?_; intro vO' w3 hown3 hgr3 _ hfr3; obtain ⟨aO, cO, rfl, _⟩ := own_view hown3; have g3 : w3.heap[kb]? = wr.heap[kb]? := (book_kept HST3.out HLS.out (by decide) hgr3); have cc3 : w3.cell? ⟨kb, 3, none⟩ = some vO := ((World.cell?_of_block g3).trans k1); have f3 : w3.frozen? ⟨kb, 3, none⟩ = false := ((World.frozen?_of_block g3).trans (kf 3)))
      have st4 := HST3.out.push 3 HCSJ.out hq hN (by decide) (by decide) (by decide) (by omega) (fun _ hc => by simp at hc) HLS.out hgr3 hfr3 hown3
      obtain ⟨W4, hW4⟩ : ∃ W4, W4 = w3.setCell ⟨kb, 3, none⟩ (.slice aO (N + q + 1) cO) := ⟨_, rfl⟩
      rw [← hW4] at st4 ⊢
      have HMBx : Hid (kb ≤ W4.heap.size) := Nat.le_of_lt (Nat.lt_of_lt_of_le hlt st4.foot.size)
      have hz4 := st4.foot.size
      have HST4 := hideF st4
      have HQ2 : Hid (∀ g, w.heap.size ≤ g → Q g) := fun g hg => by rw [HQ.out]; exact .inr hg
      clear hW4 st4 k1 k7 k8 kf st HST3 HLS hLs hown3 hgr3 hfr3 g3 cc3 f3
      go_wp2_with (at_builtin; refine wpList_append_keep rfl (.tmp 69) (.tmp 71) 32 rfl B 9 iE (.string ⟨#[]⟩) 1 16 Try.underlying32 hj1 hj2 hj3 hj4 rfl (by decide) (.slice aV m cV) m (reps m (mkT N)) rfl (HST4.out.rec_.list.alloc _) ⟨W4.heap.size, 0, none⟩ 1 1 [.string (wordB N)] rfl rfl (cell_one_new _ _ _) (by intro u hu; simp at hu; subst hu; rfl) (by unfold maxLen; omega) (by omega) (by simp; omega) ?_; intro v5 w5 hown5 hgr5 hkp5 hfr5; obtain ⟨a5, d5, rfl, _⟩ := own_view hown5)
      have st5 := HST4.out.grow (by decide) (by decide) HQ2.out HMBx.out (fun _ _ ee => by simp [Value.ownBlock] at ee) hgr5 hkp5 hfr5 (by rw [mkT_eq]; exact hown5)
      have HST5 := hideF st5
      clear st5 hown5 hgr5 hkp5 hfr5 HST4 HMBx
      go_loopw [2, 7] (fun l i wr => ∃ (r m' : Nat) (v : Value), r ≤ 60 ∧ i = .int .i64 (r : Nat) ∧ l = v ∧ m' ≤ 64 * q + 1 + r ∧ MarkSt w wr B kb kb cs none 32 9 1 mkT Q N (q + 1) (.slice aF N cF) (.slice none 0 0) (.slice aO (N + q + 1) cO) v m') (fun _ i _ => 60 - (intOf i).toNat)
      case atStart => exact ⟨0, m + 1, _, by omega, rfl, rfl, by omega, HST5.out⟩
      case round =>
        obtain ⟨r, m', v, hr, rfl, rfl, hm', st6⟩ := hrel
        obtain ⟨aV6, cV6, rfl, _⟩ := own_view st6.rec_.list
        have HMBx : Hid (kb ≤ wr.heap.size) := Nat.le_of_lt (Nat.lt_of_lt_of_le hlt st6.foot.size)
        have hz6 := st6.foot.size
        have HST6 := hideF st6
        clear st6
        by_cases hr2 : r < 60 ∧ q = 2
        · obtain ⟨hr60, hq2⟩ := hr2
          have t2 : ((q : Int) == 2) = true := by simp; omega
          clear hq2
          go_wp2_with (at_builtin; refine wpList_append_keep rfl (.tmp 81) (.tmp 83) 32 rfl B 9 iE (.string ⟨#[]⟩) 1 16 Try.underlying32 hj1 hj2 hj3 hj4 rfl (by decide) (.slice aV6 m' cV6) m' (reps m' (mkT N)) rfl (HST6.out.rec_.list.alloc _) ⟨wr.heap.size, 0, none⟩ 1 1 [.string (wordB N)] rfl rfl (cell_one_new _ _ _) (by intro u hu; simp at hu; subst hu; rfl) (by unfold maxLen; omega) (by omega) (by simp; omega) ?_; intro v7 w7 hown7 hgr7 hkp7 hfr7; obtain ⟨a7, d7, rfl, _⟩ := own_view hown7)
          have st7 := HST6.out.grow (by decide) (by decide) HQ2.out HMBx.out (fun _ _ ee => by simp [Value.ownBlock] at ee) hgr7 hkp7 hfr7 (by rw [mkT_eq]; exact hown7)
          go_roundw
          case rel => exact ⟨r + 1, m' + 1, _, by omega, by go_num, rfl, by omega, st7⟩
          case measure => simp [intOf]; omega
        · by_cases hr60 : r < 60
          · have t2 : ((q : Int) == 2) = false := by simp; omega
            go_wp2
            go_roundw
            case rel => exact ⟨q + 1, m', _, _, by omega, by go_num, rfl, by omega, HST6.out⟩
            case measure => simp [intOf]; omega
          · go_wp2
            go_roundw
            case rel => exact ⟨q + 1, m', _, _, by omega, by go_num, rfl, by omega, HST6.out⟩
            case measure => simp [intOf]; omega
    · obtain ⟨u7, k7⟩ := k7
      obtain ⟨u8, k8⟩ := k8
      go_wp2
      go_end0
      have hqe : q = 4 := by omega
      have sF := (HST3.out.field (fun x => #[c0, c1, c2, x, .bool false, c5, c6, c7, c8, .slice none 0 0, .slice none 0 0, c11, c12]) 9 (.slice none 0 0) (by rw [HCS.out]; intro a; rfl) (by decide) (by decide) (fun _ hc => by simp at hc)).field
        (fun x => #[c0, c1, c2, x, .bool false, c5, c6, c7, c8, .slice none 0 0, .slice none 0 0, c11, c12]) 10 (.slice none 0 0) (fun _ => rfl) (by decide) (by decide) (fun _ hc => by simp at hc)
      have hl := sF.rec_.lists
      rw [hqe, HQ.out] at hl
      exact ⟨rfl, vO, sF.book, hl, sF.foot, sF.oB⟩
end Go.Proofs.Ytcpldcojckhapaa
