/-
  The book of package latchlaw: 'actMarked', where no list of its kind came: four lists are recorded.
-/
import Derived.Test.YtcpldcojckhapaaBookF
import Derived.Test.YtcpldcojckhapaaBookS
import Derived.Deep.Cut
import Derived.Deep.CutRange
set_option maxRecDepth 100000
namespace Go.Proofs.Ytcpldcojckhapaa
open Go.RowKit

theorem mkA_eq (N : Nat) : mkA N = [.int .u8 0, .int .i64 (70000 + (N : Int)), .int .i64 0, .string ⟨#[]⟩] := by simp [mkA]
theorem cell_four_new (w : World) (a b c d : Value) (t : TypeId) : ∀ j u, [a, b, c, d][j]? = some u → (w.alloc (.cells #[a, b, c, d] t)).cell? ((⟨w.heap.size, 0, none⟩ : Addr).add j) = some u := by
  intro j u hj
  match j, hj with
  | 0, hj => simp at hj; subst hj; simp [Addr.add]
  | 1, hj => simp at hj; subst hj; simp [Addr.add]
  | 2, hj => simp at hj; subst hj; simp [Addr.add]
  | 3, hj => simp at hj; subst hj; simp [Addr.add]
set_option maxRecDepth 100000 in
set_option maxHeartbeats 8000000 in
theorem actMarked_any (w : World) (B kb : Nat) (c0 c1 c3 c5 c6 c7 c8 c9 c10 vF : Value) (N : Nat) (P : Nat → Prop)
    (hkb : w.heap[kb]? = some (.cells #[c0, c1, vF, c3, .bool false, c5, c6, c7, c8, c9, c10, .slice none 0 0, .slice none 0 0] 35 (0, 0)))
    (hL : ListsIn w B 33 75 4 mkA vF N P) (hN : N % 4 = 0) (hN2 : N ≤ 900) (hB : B ≤ w.heap.size) :
    Calls Try.prog 43 #[.pointer (some ⟨kb, 0, none⟩)] w fun e w' => e = .returned (.tuple #[]) ∧ ∃ vF', w'.heap[kb]? = some (.cells #[c0, c1, vF', c3, .bool false, c5, c6, c7, c8, c9, c10, .slice none 0 0, .slice none 0 0] 35 (0, 0)) ∧
      ListsIn w' B 33 75 4 mkA vF' (N + 4) (fun g => P g ∨ w.heap.size ≤ g) ∧ Foot w w' kb vF (.slice none 0 0) ∧ ∀ g, vF'.ownBlock = some g → vF.ownBlock = some g ∨ w.heap.size ≤ g := by
  have hlt := lt_of_block hkb
  have bO : w.cell? ⟨kb, 2, none⟩ = some vF := by rw [cell_of_row w kb 2 _ 35 (0, 0) hkb]; rfl
  have bC : w.cell? ⟨kb, 11, none⟩ = some (.slice none 0 0) := by rw [cell_of_row w kb 11 _ 35 (0, 0) hkb]; rfl
  obtain ⟨Ls0, hL1, hL2⟩ := hL
  obtain ⟨aF, cF, rfl, _⟩ := own_view hL1
  have HLI : ListsIn w B 33 75 4 mkA (.slice aF N cF) N P := ⟨Ls0, hL1, hL2⟩
  clear hL1 hL2
  have HKB := hideF hkb
  clear hkb
  go_enter Try.func43, Try.ntmps43
  go_wp2_with fail
  refine wp_loop_rounds 1 ?_
  rw [rounds_succ]
  go_wp2_with fail
  obtain ⟨w1, hw1⟩ : ∃ w1, w1 = w.alloc (.cells #[.int .u8 0, .int .i64 (70000 + (N : Int)), .int .i64 0, .string ⟨#[]⟩] 75) := ⟨_, rfl⟩
  rw [← hw1]
  have hb1 : Below w.heap.size w w1 := by rw [hw1]; exact (Below.refl _ _).alloc (Nat.le_refl _) _
  obtain ⟨mb, hmb⟩ : ∃ mb, mb = w.heap.size := ⟨_, rfl⟩
  rw [← hmb]
  have hMB : w1.heap[mb]? = some (Obj.cells #[.int .u8 0, .int .i64 (70000 + (N : Int)), .int .i64 0, .string ⟨#[]⟩] 75 (0, 0)) := by rw [hw1, hmb]; exact heap_alloc_new w _
  have HMW : Hid (mb = w.heap.size) := hmb
  clear hw1 hmb
  refine wp_loop_rounds 1 ?_
  rw [rounds_succ]
  go_wp2_with fail
  obtain ⟨cs, hcs⟩ : ∃ cs : Value → Array Value, cs = fun x => #[c0, c1, x, c3, .bool false, c5, c6, c7, c8, c9, c10, .slice none 0 0, .slice none 0 0] := ⟨_, rfl⟩
  obtain ⟨Q, hQ⟩ : ∃ Q : Nat → Prop, Q = fun g => P g ∨ w.heap.size ≤ g := ⟨_, rfl⟩
  have hst : MarkSt w w1 B kb mb cs (some #[.int .u8 0, .int .i64 (70000 + (N : Int)), .int .i64 0, .string ⟨#[]⟩]) 33 75 4 mkA Q N 0 (.slice aF N cF) (.slice none 0 0) (.slice aF N cF) (.slice none 0 0) 0 := by
    refine ⟨Rec.start (HLI.below hb1) (World.ownsRow_nil _ _ _ _) (fun g _ ee => by simp [Value.ownBlock] at ee) (fun g hg => by rw [hQ]; exact .inl hg) (fun g hg => by simp [Value.ownBlock] at hg), ?_, ?_, ?_, fun g hg => .inl hg, fun g hg => .inl hg⟩
    · rw [hb1.block kb hlt, HKB.out, hcs]
    · intro c hc
      simp only [Option.some.injEq] at hc
      subst hc
      exact hMB
    · exact ⟨hb1.os, hb1.tape, hb1.output, hb1.size, fun k hk _ _ _ => hb1.block k hk⟩
  have HST := hideF hst
  have HCSJ := hideF (show ∀ a b, (cs a).setIfInBounds 2 b = cs b by rw [hcs]; intro a b; rfl)
  have HCS : Hid (cs = fun x => #[c0, c1, x, c3, .bool false, c5, c6, c7, c8, c9, c10, .slice none 0 0, .slice none 0 0]) := hcs
  have HQ : Hid (Q = fun g => P g ∨ w.heap.size ≤ g) := hQ
  have hkbm : kb < mb := by rw [HMW.out]; exact hlt
  clear hst hcs hQ bO bC hMB hb1
  obtain ⟨iO, hi1, hi2, hi3, hi4⟩ := info_parts Try.info33
  obtain ⟨iE, hj1, hj2, hj3, hj4⟩ := info_parts Try.info75
  go_loopw [2, 6] (fun l i wr => ∃ (q m : Nat) (v vO : Value), q ≤ 4 ∧ i = .int .i64 (q : Nat) ∧ l = v ∧ m ≤ 64 * q ∧ MarkSt w wr B kb mb cs (some #[.int .u8 0, .int .i64 (70000 + (N : Int)), .int .i64 0, .string ⟨#[]⟩]) 33 75 4 mkA Q N q (.slice aF N cF) (.slice none 0 0) vO v m) (fun _ i _ => 4 - (intOf i).toNat)
  case atStart => exact ⟨0, 0, _, _, by omega, rfl, rfl, by omega, HST.out⟩
  case round =>
    obtain ⟨q, m, v, vO, hq4, rfl, rfl, hm, st⟩ := hrel
    obtain ⟨Ls, hLs, _⟩ := st.rec_.outer
    obtain ⟨aV, cV, rfl, _⟩ := own_view st.rec_.list
    have hsz := st.foot.size
    have hbook := st.book
    rw [HCS.out] at hbook
    have k1 : wr.cell? ⟨kb, 2, none⟩ = some vO := by rw [cell_of_row wr kb 2 _ 35 (0, 0) hbook]; rfl
    have k7 : ∃ u, wr.cell? ⟨kb, 11, none⟩ = some u := ⟨_, by rw [cell_of_row wr kb 11 _ 35 (0, 0) hbook]; rfl⟩
    have k8 : ∃ u, wr.cell? ⟨kb, 12, none⟩ = some u := ⟨_, by rw [cell_of_row wr kb 12 _ 35 (0, 0) hbook]; rfl⟩
    have kf : ∀ j, wr.frozen? ⟨kb, j, none⟩ = false := fun j => frozen_of_row wr kb j _ 35 hbook
    have HST3 := hideF st
    have HLS := hideF hLs
    clear hbook
    by_cases hq : q < 4
    · go_upto_region 14 with (at_builtin; refine wpList_append_keep rfl (.tmp 64) (.tmp 66) 28 rfl B 33 iO (.slice none 0 0) 1 24 Try.underlying28 hi1 hi2 hi3 hi4 rfl (by decide) vO (N + q) Ls rfl (HLS.out.alloc _) ⟨wr.heap.size, 0, none⟩ 1 1 [.slice aV m cV] rfl rfl (cell_one_new _ _ _) (by intro u hu; simp at hu; subst hu; rfl) (by unfold maxLen; omega) (by omega) (by simp; omega) ?_; intro vO' w3 hown3 hgr3 _ hfr3; obtain ⟨aO, cO, rfl, _⟩ := own_view hown3; have g3 : w3.heap[kb]? = wr.heap[kb]? := (book_kept HST3.out HLS.out (by decide) hgr3); have cc3 : w3.cell? ⟨kb, 2, none⟩ = some vO := ((World.cell?_of_block g3).trans k1); have f3 : w3.frozen? ⟨kb, 2, none⟩ = false := ((World.frozen?_of_block g3).trans (kf 2)))
      have st4 := HST3.out.push 2 HCSJ.out hq hN (by decide) (by decide) (by decide) (by omega) (fun _ hc => by omega) HLS.out hgr3 hfr3 hown3
      obtain ⟨W4, hW4⟩ : ∃ W4, W4 = w3.setCell ⟨kb, 2, none⟩ (.slice aO (N + q + 1) cO) := ⟨_, rfl⟩
      rw [← hW4] at st4 ⊢
      have hmk := st4.mark _ rfl
      have m0 : W4.cell? ⟨mb, 0, none⟩ = some (.int .u8 0) := by rw [cell_of_row W4 mb 0 _ 75 (0, 0) hmk]; rfl
      have m1 : W4.cell? ⟨mb, 1, none⟩ = some (.int .i64 (70000 + (N : Int))) := by rw [cell_of_row W4 mb 1 _ 75 (0, 0) hmk]; rfl
      have m2 : W4.cell? ⟨mb, 2, none⟩ = some (.int .i64 0) := by rw [cell_of_row W4 mb 2 _ 75 (0, 0) hmk]; rfl
      have m3 : W4.cell? ⟨mb, 3, none⟩ = some (.string ⟨#[]⟩) := by rw [cell_of_row W4 mb 3 _ 75 (0, 0) hmk]; rfl
      have HMBx : Hid (mb ≤ W4.heap.size) := Nat.le_of_lt (lt_of_block hmk)
      have hz4 := st4.foot.size
      have HST4 := hideF st4
      have HQ2 : Hid (∀ g, w.heap.size ≤ g → Q g) := fun g hg => by rw [HQ.out]; exact .inr hg
      clear hW4 st4 k1 k7 k8 kf st HST3 HLS hLs hown3 hgr3 hfr3 g3 cc3 f3 hmk
      go_wp2_with (at_builtin; refine wpList_append_keep rfl (.tmp 70) (.tmp 72) 33 rfl B 75 iE (.agg #[.int .u8 0, .int .i64 0, .int .i64 0, .string ⟨#[]⟩]) 4 40 Try.underlying33 hj1 hj2 hj3 hj4 rfl (by decide) (.slice aV m cV) m (reps m (mkA N)) rfl (HST4.out.rec_.list.alloc _) ⟨W4.heap.size, 0, none⟩ 1 1 [.int .u8 0, .int .i64 (70000 + (N : Int)), .int .i64 0, .string ⟨#[]⟩] rfl rfl (cell_four_new _ _ _ _ _ _) (by intro u hu; simp at hu; rcases hu with rfl | rfl | rfl | rfl <;> rfl) (by unfold maxLen; omega) (by omega) (by simp; omega) ?_; intro v5 w5 hown5 hgr5 hkp5 hfr5; obtain ⟨a5, d5, rfl, _⟩ := own_view hown5)
      have st5 := HST4.out.grow (by decide) (by decide) HQ2.out HMBx.out (fun _ _ ee => by simp [Value.ownBlock] at ee) hgr5 hkp5 hfr5 (by rw [mkA_eq]; exact hown5)
      have HST5 := hideF st5
      clear st5 hown5 hgr5 hkp5 hfr5 HST4 HMBx m0 m1 m2 m3
      go_loopw [2, 7] (fun l i wr => ∃ (r m' : Nat) (v : Value), r ≤ 60 ∧ i = .int .i64 (r : Nat) ∧ l = v ∧ m' ≤ 64 * q + 1 + r ∧ MarkSt w wr B kb mb cs (some #[.int .u8 0, .int .i64 (70000 + (N : Int)), .int .i64 0, .string ⟨#[]⟩]) 33 75 4 mkA Q N (q + 1) (.slice aF N cF) (.slice none 0 0) (.slice aO (N + q + 1) cO) v m') (fun _ i _ => 60 - (intOf i).toNat)
      case atStart => exact ⟨0, m + 1, _, by omega, rfl, rfl, by omega, HST5.out⟩
      case round =>
        obtain ⟨r, m', v, hr, rfl, rfl, hm', st6⟩ := hrel
        obtain ⟨aV6, cV6, rfl, _⟩ := own_view st6.rec_.list
        have hmk := st6.mark _ rfl
        have m0 : wr.cell? ⟨mb, 0, none⟩ = some (.int .u8 0) := by rw [cell_of_row wr mb 0 _ 75 (0, 0) hmk]; rfl
        have m1 : wr.cell? ⟨mb, 1, none⟩ = some (.int .i64 (70000 + (N : Int))) := by rw [cell_of_row wr mb 1 _ 75 (0, 0) hmk]; rfl
        have m2 : wr.cell? ⟨mb, 2, none⟩ = some (.int .i64 0) := by rw [cell_of_row wr mb 2 _ 75 (0, 0) hmk]; rfl
        have m3 : wr.cell? ⟨mb, 3, none⟩ = some (.string ⟨#[]⟩) := by rw [cell_of_row wr mb 3 _ 75 (0, 0) hmk]; rfl
        have HMBx : Hid (mb ≤ wr.heap.size) := Nat.le_of_lt (lt_of_block hmk)
        have hz6 := st6.foot.size
        have HST6 := hideF st6
        clear st6 hmk
        by_cases hr2 : r < 60 ∧ q = 2
        · obtain ⟨hr60, hq2⟩ := hr2
          have t2 : ((q : Int) == 2) = true := by simp; omega
          clear hq2
          go_wp2_with (at_builtin; refine wpList_append_keep rfl (.tmp 82) (.tmp 84) 33 rfl B 75 iE (.agg #[.int .u8 0, .int .i64 0, .int .i64 0, .string ⟨#[]⟩]) 4 40 Try.underlying33 hj1 hj2 hj3 hj4 rfl (by decide) (.slice aV6 m' cV6) m' (reps m' (mkA N)) rfl (HST6.out.rec_.list.alloc _) ⟨wr.heap.size, 0, none⟩ 1 1 [.int .u8 0, .int .i64 (70000 + (N : Int)), .int .i64 0, .string ⟨#[]⟩] rfl rfl (cell_four_new _ _ _ _ _ _) (by intro u hu; simp at hu; rcases hu with rfl | rfl | rfl | rfl <;> rfl) (by unfold maxLen; omega) (by omega) (by simp; omega) ?_; intro v7 w7 hown7 hgr7 hkp7 hfr7; obtain ⟨a7, d7, rfl, _⟩ := own_view hown7)
          have st7 := HST6.out.grow (by decide) (by decide) HQ2.out HMBx.out (fun _ _ ee => by simp [Value.ownBlock] at ee) hgr7 hkp7 hfr7 (by rw [mkA_eq]; exact hown7)
          go_roundw
          case rel => exact ⟨r + 1, m' + 1, _, by omega, by go_num, rfl, by omega, st7⟩
          case measure => simp [intOf]; omega
        · by_cases hr60 : r < 60
          · have t2 : ((q : Int) == 2) = false := by simp; omega
            go_wp2
            go_roundw
            case rel => exact ⟨q + 1, m', _, _, by omega, by go_num, rfl, by omega, HST6.out⟩
            case measure => simp [intOf]; omega
          · go_wp2
            go_roundw
            case rel => exact ⟨q + 1, m', _, _, by omega, by go_num, rfl, by omega, HST6.out⟩
            case measure => simp [intOf]; omega
    · obtain ⟨u7, k7⟩ := k7
      obtain ⟨u8, k8⟩ := k8
      go_wp2
      go_end0
      have hqe : q = 4 := by omega
      have sF := (HST3.out.field (fun x => #[c0, c1, x, c3, .bool false, c5, c6, c7, c8, c9, c10, .slice none 0 0, .slice none 0 0]) 11 (.slice none 0 0) (by rw [HCS.out]; intro a; rfl) (by decide) (by decide) (fun _ hc => by omega)).field
        (fun x => #[c0, c1, x, c3, .bool false, c5, c6, c7, c8, c9, c10, .slice none 0 0, .slice none 0 0]) 12 (.slice none 0 0) (fun _ => rfl) (by decide) (by decide) (fun _ hc => by omega)
      have hl := sF.rec_.lists
      rw [hqe, HQ.out] at hl
      exact ⟨rfl, vO, sF.book, hl, sF.foot, sF.oB⟩
end Go.Proofs.Ytcpldcojckhapaa
