/-
  The book of package latchlaw: 'frameMarked': the list that came last is marked and recorded.
-/
import Derived.Test.YtcpldcojckhapaaBookQ
import Derived.Deep.Cut
import Derived.Deep.CutRange
set_option maxRecDepth 100000
namespace Go.Proofs.Ytcpldcojckhapaa
open Go.RowKit

theorem mkF_eq (N : Nat) : mkF N = [.int .i64 (70000 + (N : Int)), .int .i64 0, .string ⟨#[]⟩] := by simp [mkF]
theorem grown_setCell {w w' : World} {g i : Nat} (h : w.grownBy w' (some g)) (v : Value) : w.grownBy (w'.setCell ⟨g, i, none⟩ v) (some g) :=
  ⟨h.os, h.tape, h.output, by simpa using h.size, fun k hk hne => (heap_setCell_other _ _ _ _ (fun e => hne (by rw [e]))).trans (h.block k hk hne)⟩
theorem grown_refl (w : World) (r : Option Nat) : w.grownBy w r := ⟨rfl, rfl, rfl, Nat.le_refl _, fun _ _ _ => rfl⟩
theorem book_kept {w wr w3 : World} {B kb mb : Nat} {cs : Value → Array Value} {mc : Option (Array Value)} {eO e : TypeId} {size : Nat} {mk : Nat → List Value} {Q : Nat → Prop} {N q : Nat} {vF vC vO v : Value} {m : Nat} {Ls : List Value} {o : Obj}
    (h : MarkSt w wr B kb mb cs mc eO e size mk Q N q vF vC vO v m) (hLs : wr.ownsRow B eO 1 vO (N + q) Ls) (h35 : eO ≠ 35) (hgr : (wr.alloc o).grownBy w3 vO.ownBlock) : w3.heap[kb]? = wr.heap[kb]? := by
  have hkbX : (wr.alloc o).heap[kb]? = wr.heap[kb]? := heap_alloc_old wr o (lt_of_block h.book)
  refine (hgr.block kb (by rw [World.size_alloc]; have := lt_of_block h.book; omega) (fun ee => ?_)).trans hkbX
  obtain ⟨c, hc⟩ := own_block hLs kb ee.symm
  have := h.book
  rw [hc] at this
  simp at this
  exact h35 this.2
theorem hideF {p : Prop} (h : p) : Hid p := h
set_option maxRecDepth 100000 in
set_option maxHeartbeats 8000000 in
theorem frameMarked_any (w : World) (B kb : Nat) (c0 vF c2 c3 c5 c6 vC vW c9 c10 c11 c12 : Value) (N : Nat) (P : Nat → Prop) (fs : List (Nat × Nat × ByteArray))
    (hkb : w.heap[kb]? = some (.cells #[c0, vF, c2, c3, .bool false, c5, c6, vC, vW, c9, c10, c11, c12] 35 (0, 0)))
    (hL : ListsIn w B 31 40 3 mkF vF N P) (hap : ∀ g, P g → vC.ownBlock ≠ some g)
    (hC : w.ownsRow B 40 3 vC fs.length (fs.flatMap Pl.frC)) (hW : w.ownsRow B 40 3 vW fs.length (fs.flatMap Pl.frC)) (hN : N % 4 = 0) (hN2 : N ≤ 900) (hfs : fs.length ≤ 1000000) (hB : B ≤ w.heap.size) :
    Calls Try.prog 38 #[.pointer (some ⟨kb, 0, none⟩)] w fun e w' => e = .returned (.tuple #[]) ∧ ∃ vF', w'.heap[kb]? = some (.cells #[c0, vF', c2, c3, .bool false, c5, c6, .slice none 0 0, .slice none 0 0, c9, c10, c11, c12] 35 (0, 0)) ∧
      ListsIn w' B 31 40 3 mkF vF' (N + 4) (fun g => P g ∨ vC.ownBlock = some g ∨ w.heap.size ≤ g) ∧ Foot w w' kb vF vC ∧ ∀ g, vF'.ownBlock = some g → vF.ownBlock = some g ∨ w.heap.size ≤ g := by
  have hlt := lt_of_block hkb
  have b1 : w.cell? ⟨kb, 1, none⟩ = some vF := by rw [cell_of_row w kb 1 _ 35 (0, 0) hkb]; rfl
  have b4 : w.cell? ⟨kb, 4, none⟩ = some (.bool false) := by rw [cell_of_row w kb 4 _ 35 (0, 0) hkb]; rfl
  have b7 : w.cell? ⟨kb, 7, none⟩ = some vC := by rw [cell_of_row w kb 7 _ 35 (0, 0) hkb]; rfl
  have b8 : w.cell? ⟨kb, 8, none⟩ = some vW := by rw [cell_of_row w kb 8 _ 35 (0, 0) hkb]; rfl
  have fz : ∀ j, w.frozen? ⟨kb, j, none⟩ = false := fun j => frozen_of_row w kb j _ 35 hkb
  have HKB := hideF hkb
  obtain ⟨aC, cC, rfl, vwC⟩ := own_view hC
  obtain ⟨aW, cW, rfl, vwW⟩ := own_view hW
  obtain ⟨Ls0, hL1, hL2⟩ := hL
  obtain ⟨aF, cF, rfl, _⟩ := own_view hL1
  have HLI : ListsIn w B 31 40 3 mkF (.slice aF N cF) N P := ⟨Ls0, hL1, hL2⟩
  clear hL1 hL2
  obtain ⟨n, hfl⟩ : ∃ n, n = fs.length := ⟨_, rfl⟩
  rw [← hfl] at b7 b8 vwC vwW hfs hC hW HKB hap
  have HFL : Hid (n = fs.length) := hfl
  have HC := hideF vwC
  have HW := hideF vwW
  have HAP := hideF hap
  clear vwC vwW hW hfl hkb hap
  go_enter Try.func38, Try.ntmps38
  go_wp2_with fail
  go_loopw [3] (fun i wr => ∃ q : Nat, q ≤ n ∧ i = .int .i64 (q : Nat) ∧ SameH w wr) (fun i _ => n - (intOf i).toNat)
  case atStart => exact ⟨0, Nat.zero_le _, rfl, SameH.refl _⟩
  case round =>
    obtain ⟨q, hq, rfl, hsq⟩ := hrel
    have kc := fun j => hsq.cell ⟨kb, j, none⟩
    have kf : ∀ j, wr.frozen? ⟨kb, j, none⟩ = false := fun j => (hsq.frozen ⟨kb, j, none⟩).trans (fz j)
    by_cases hqn : q < n
    · obtain ⟨g1, rfl, hg1, hc1⟩ := HC.out q hqn
      obtain ⟨g2, rfl, hg2, hc2⟩ := HW.out q hqn
      have hfa := flat_at fs q (by rw [← HFL.out]; exact hqn)
      obtain ⟨x, hx⟩ : ∃ x, x = fs[q]'(by rw [← HFL.out]; exact hqn) := ⟨_, rfl⟩
      rw [← hx] at hfa
      clear hx
      obtain ⟨m, u, b⟩ := x
      simp only at hfa
      have d10 := ((hsq.cell ⟨g1, q * 3, none⟩).trans (hc1 (q * 3) (by omega))).trans hfa.1
      have d11 := ((hsq.cell ⟨g1, q * 3 + 1, none⟩).trans (hc1 (q * 3 + 1) (by omega))).trans hfa.2.1
      have d12 := ((hsq.cell ⟨g1, q * 3 + 2, none⟩).trans (hc1 (q * 3 + 2) (by omega))).trans hfa.2.2
      have d20 := ((hsq.cell ⟨g2, q * 3, none⟩).trans (hc2 (q * 3) (by omega))).trans hfa.1
      have d21 := ((hsq.cell ⟨g2, q * 3 + 1, none⟩).trans (hc2 (q * 3 + 1) (by omega))).trans hfa.2.1
      have d22 := ((hsq.cell ⟨g2, q * 3 + 2, none⟩).trans (hc2 (q * 3 + 2) (by omega))).trans hfa.2.2
      clear hc1 hc2 hfa
      go_wp2_with fail
      go_region
      all_goals go_wp2
      all_goals
        go_roundw
        case rel => exact ⟨q + 1, by omega, by go_num, by first | exact (hsq.setCell kb 4 (.bool false) _ 35 HKB.out rfl).drew | exact hsq.drew.setCell kb 4 (.bool false) _ 35 HKB.out rfl⟩
        case measure => simp [intOf]; omega
    · go_wp2_with fail
      obtain ⟨W1, hW1⟩ : ∃ W1, W1 = wr.alloc (.cells #[.int .i64 (70000 + (N : Int)), .int .i64 0, .string ⟨#[]⟩] 40) := ⟨_, rfl⟩
      rw [← hW1]
      have hwh := hsq.heap
      obtain ⟨mb, hmb⟩ : ∃ mb, mb = wr.heap.size := ⟨_, rfl⟩
      rw [← hmb]
      have hmw : mb = w.heap.size := by rw [hmb, hwh]
      have hz1 : W1.heap.size = mb + 1 := by rw [hW1, hmb]; simp
      have hold : ∀ k, k < mb → W1.heap[k]? = w.heap[k]? := fun k hk => by rw [hW1, ← hwh]; exact heap_alloc_old wr _ (by rw [← hmb]; exact hk)
      have hMB : W1.heap[mb]? = some (.cells #[.int .i64 (70000 + (N : Int)), .int .i64 0, .string ⟨#[]⟩] 40 (0, 0)) := by rw [hW1, hmb]; exact heap_alloc_new wr _
      have hF1 : Foot w W1 kb (.slice aF N cF) (.slice aC n cC) := by rw [hW1]; exact (hsq.foot kb _ _).alloc _
      have hC1 : W1.ownsRow B 40 3 (.slice aC n cC) n (fs.flatMap Pl.frC) := own_same hC (fun g hg => hold g (by rw [hmw]; exact (hC.lt g hg).2))
      have hcb : ∀ g, Value.ownBlock (.slice aC n cC) = some g → g < mb := fun g hg => by rw [hmw]; exact (hC.lt g hg).2
      have HMW : Hid (mb = w.heap.size) := hmw
      have HOLD := hideF hold
      have HCB := hideF hcb
      have HCT := hideF (own_block hC)
      have HF1 := hideF hF1
      have HMB := hideF hMB
      have HZ1 : Hid (W1.heap.size = mb + 1) := hz1
      have hP0 : PartC W1 B 40 3 (.slice aC n cC) n 0 (reps n (mkF N)) := PartC.of_own hC1
      clear hW1 hwh hmw hold hMB hF1 hC1 hC hcb kc kf hsq hmb hz1
      go_loopw [5] (fun i wr => ∃ k : Nat, k ≤ n ∧ i = .int .i64 (k : Nat) ∧ PartC wr B 40 3 (.slice aC n cC) n (k * 3) (reps n (mkF N)) ∧ W1.grownBy wr (Value.ownBlock (.slice aC n cC))) (fun i _ => n - (intOf i).toNat)
      case atStart => exact ⟨0, Nat.zero_le _, rfl, hP0, grown_refl _ _⟩
      case round =>
        obtain ⟨k, hk, rfl, hP, hG⟩ := hrel
        have hmc : ∀ j, wr.cell? ⟨mb, j, none⟩ = W1.cell? ⟨mb, j, none⟩ := fun j => World.cell?_of_block (hG.block mb (by rw [HZ1.out]; omega) (fun e => by have := HCB.out mb e.symm; omega))
        have m0 : wr.cell? ⟨mb, 0, none⟩ = some (.int .i64 (70000 + (N : Int))) := (hmc 0).trans (by rw [cell_of_row W1 mb 0 _ 40 (0, 0) HMB.out]; rfl)
        have m1 : wr.cell? ⟨mb, 1, none⟩ = some (.int .i64 0) := (hmc 1).trans (by rw [cell_of_row W1 mb 1 _ 40 (0, 0) HMB.out]; rfl)
        have m2 : wr.cell? ⟨mb, 2, none⟩ = some (.string ⟨#[]⟩) := (hmc 2).trans (by rw [cell_of_row W1 mb 2 _ 40 (0, 0) HMB.out]; rfl)
        clear hmc
        by_cases hkn : k < n
        · obtain ⟨g, rfl, _, _⟩ := HC.out k hkn
          obtain ⟨hce, hfe⟩ := hP.cells
          obtain ⟨u0, x0⟩ := hce (k * 3) (by omega)
          obtain ⟨u1, x1⟩ := hce (k * 3 + 1) (by omega)
          obtain ⟨u2, x2⟩ := hce (k * 3 + 2) (by omega)
          have y0 : (reps n (mkF N))[k * 3]? = some (.int .i64 (70000 + (N : Int))) := by have := rep_at (mkF N) 3 n k 0 rfl hkn (by omega); rw [Nat.add_zero] at this; unfold reps; rw [this, mkF_eq]; rfl
          have y1 : (reps n (mkF N))[k * 3 + 1]? = some (.int .i64 0) := by unfold reps; rw [rep_at (mkF N) 3 n k 1 rfl hkn (by omega)]; rfl
          have y2 : (reps n (mkF N))[k * 3 + 2]? = some (.string ⟨#[]⟩) := by unfold reps; rw [rep_at (mkF N) 3 n k 2 rfl hkn (by omega)]; rfl
          have hP3 := ((hP.step y0 (by omega)).step y1 (by omega)).step y2 (by omega)
          have HP3 := hideF hP3
          have HG3 := hideF (grown_setCell (i := k * 3 + 2) (grown_setCell (i := k * 3 + 1) (grown_setCell (i := k * 3) hG (.int .i64 (70000 + (N : Int)))) (.int .i64 0)) (.string ⟨#[]⟩))
          clear hce y0 y1 y2 hP3 hP hG
          go_wp2
          go_roundw
          case rel => exact ⟨k + 1, by omega, by go_num, by rw [show (k + 1) * 3 = k * 3 + 1 + 1 + 1 by omega]; exact HP3.out, HG3.out⟩
          case measure => simp [intOf]; omega
        · go_wp2_with fail
          obtain ⟨cs, hcs⟩ : ∃ cs : Value → Array Value, cs = fun x => #[c0, x, c2, c3, .bool false, c5, c6, .slice aC n cC, .slice aW n cW, c9, c10, c11, c12] := ⟨_, rfl⟩
          obtain ⟨Q, hQ⟩ : ∃ Q : Nat → Prop, Q = fun g => P g ∨ Value.ownBlock (.slice aC n cC) = some g ∨ w.heap.size ≤ g := ⟨_, rfl⟩
          have hst : MarkSt w wr B kb mb cs (some #[.int .i64 (70000 + (N : Int)), .int .i64 0, .string ⟨#[]⟩]) 31 40 3 mkF Q N 0 (.slice aF N cF) (.slice aC n cC) (.slice aF N cF) (.slice aC n cC) n := by
            have hkn2 : k = n := by omega
            subst hkn2
            have hkbm : kb < mb := by rw [HMW.out]; exact hlt
            have hsame : ∀ j, j < mb → Value.ownBlock (.slice aC k cC) ≠ some j → wr.heap[j]? = w.heap[j]? := fun j hj hne => (hG.block j (by rw [HZ1.out]; omega) (fun ee => hne ee.symm)).trans (HOLD.out j hj)
            have hown := hP.own (reps_len k 3 (mkF N) rfl) rfl
            have hLI : ListsIn wr B 31 40 3 mkF (.slice aF N cF) N P := HLI.carry (fun j cur t hc hor _ => hsame j (by rw [HMW.out]; exact lt_of_block hc) (fun ee => by
              rcases hor with r | r
              · obtain ⟨c, h40⟩ := HCT.out j ee
                obtain ⟨Ls, h1, _⟩ := HLI
                obtain ⟨c', h31⟩ := own_block h1 j r
                rw [h31] at h40
                simp at h40
              · exact HAP.out j r ee))
            refine ⟨Rec.start hLI hown HAP.out (fun g hg => by rw [hQ]; exact .inl hg) (fun g hg => by rw [hQ]; exact .inr (.inl hg)), ?_, ?_, ?_, fun g hg => .inl hg, fun g hg => .inl hg⟩
            · rw [hsame kb hkbm (fun ee => by
                obtain ⟨c, h40⟩ := HCT.out kb ee
                rw [HKB.out] at h40
                simp at h40), HKB.out, hcs]
            · intro c hc
              simp only [Option.some.injEq] at hc
              subst hc
              exact (hG.block mb (by rw [HZ1.out]; omega) (fun ee => by have := HCB.out mb ee.symm; omega)).trans HMB.out
            · exact HF1.out.grown hG (fun g hg => .inr (.inl hg))
          have HST := hideF hst
          have hcsj : ∀ a b, (cs a).setIfInBounds 1 b = cs b := by rw [hcs]; intro a b; rfl
          have HCS : Hid (cs = fun x => #[c0, x, c2, c3, .bool false, c5, c6, .slice aC n cC, .slice aW n cW, c9, c10, c11, c12]) := hcs
          have HCSJ := hideF hcsj
          have HQ : Hid (Q = fun g => P g ∨ Value.ownBlock (.slice aC n cC) = some g ∨ w.heap.size ≤ g) := hQ
          have hkbm : kb < mb := by rw [HMW.out]; exact hlt
          clear hst hcs hcsj hQ hP hG m0 m1 m2 HOLD HF1 HMB hP0
          go_loopw [2, 6] (fun l i wr => ∃ (q m : Nat) (v vO : Value), q ≤ 4 ∧ i = .int .i64 (q : Nat) ∧ l = v ∧ m ≤ n + 64 * q ∧ MarkSt w wr B kb mb cs (some #[.int .i64 (70000 + (N : Int)), .int .i64 0, .string ⟨#[]⟩]) 31 40 3 mkF Q N q (.slice aF N cF) (.slice aC n cC) vO v m) (fun _ i _ => 4 - (intOf i).toNat)
          case atStart => exact ⟨0, n, _, _, by omega, rfl, rfl, by omega, HST.out⟩
          case round =>
            obtain ⟨q, m, v, vO, hq4, rfl, rfl, hm, st⟩ := hrel
            obtain ⟨Ls, hLs, _⟩ := st.rec_.outer
            obtain ⟨aV, cV, rfl, _⟩ := own_view st.rec_.list
            have hsz := st.foot.size
            have hbook := st.book
            rw [HCS.out] at hbook
            have k1 : wr.cell? ⟨kb, 1, none⟩ = some vO := by rw [cell_of_row wr kb 1 _ 35 (0, 0) hbook]; rfl
            have k7 : ∃ u, wr.cell? ⟨kb, 7, none⟩ = some u := ⟨_, by rw [cell_of_row wr kb 7 _ 35 (0, 0) hbook]; rfl⟩
            have k8 : ∃ u, wr.cell? ⟨kb, 8, none⟩ = some u := ⟨_, by rw [cell_of_row wr kb 8 _ 35 (0, 0) hbook]; rfl⟩
            have kf : ∀ j, wr.frozen? ⟨kb, j, none⟩ = false := fun j => frozen_of_row wr kb j _ 35 hbook
            have HST3 := hideF st
            have HBK := hideF hbook
            have HLS := hideF hLs
            clear hbook
            obtain ⟨i31, hi1, hi2, hi3, hi4⟩ := info_parts Try.info31
            obtain ⟨i40, hj1, hj2, hj3, hj4⟩ := info_parts Try.info40
            by_cases hq : q < 4
            · go_upto_region 14 with (at_builtin; refine wpList_append_keep rfl (.tmp 64) (.tmp 66) 27 rfl B 31 i31 (.slice none 0 0) 1 24 Try.underlying27 hi1 hi2 hi3 hi4 rfl (by decide) vO (N + q) Ls rfl (HLS.out.alloc _) ⟨wr.heap.size, 0, none⟩ 1 1 [.slice aV m cV] rfl rfl (cell_one_new _ _ _) (by intro u hu; simp at hu; subst hu; rfl) (by unfold maxLen; omega) (by omega) (by simp; omega) ?_; intro vO' w3 hown3 hgr3 _ hfr3; obtain ⟨aO, cO, rfl, _⟩ := own_view hown3; have g3 : w3.heap[kb]? = wr.heap[kb]? := (book_kept HST3.out HLS.out (by decide) hgr3); have c3 : w3.cell? ⟨kb, 1, none⟩ = some vO := ((World.cell?_of_block g3).trans k1); have f3 : w3.frozen? ⟨kb, 1, none⟩ = false := ((World.frozen?_of_block g3).trans (kf 1)))
              have st4 := HST3.out.push 1 HCSJ.out hq hN (by decide) (by decide) (by decide) (by omega) (fun _ _ => by omega) HLS.out hgr3 hfr3 hown3
              obtain ⟨W4, hW4⟩ : ∃ W4, W4 = w3.setCell ⟨kb, 1, none⟩ (.slice aO (N + q + 1) cO) := ⟨_, rfl⟩
              rw [← hW4] at st4 ⊢
              have hmk := st4.mark _ rfl
              have m0 : W4.cell? ⟨mb, 0, none⟩ = some (.int .i64 (70000 + (N : Int))) := by rw [cell_of_row W4 mb 0 _ 40 (0, 0) hmk]; rfl
              have m1 : W4.cell? ⟨mb, 1, none⟩ = some (.int .i64 0) := by rw [cell_of_row W4 mb 1 _ 40 (0, 0) hmk]; rfl
              have m2 : W4.cell? ⟨mb, 2, none⟩ = some (.string ⟨#[]⟩) := by rw [cell_of_row W4 mb 2 _ 40 (0, 0) hmk]; rfl
              have hz4 := st4.foot.size
              have HST4 := hideF st4
              have HQ2 : Hid (∀ g, w.heap.size ≤ g → Q g) := fun g hg => by rw [HQ.out]; exact .inr (.inr hg)
              have HCM : Hid (Value.ownBlock (.slice aC n cC) ≠ some mb) := fun ee => by have := HCB.out mb ee; omega
              have HMB4 : Hid (mb ≤ W4.heap.size) := Nat.le_of_lt (lt_of_block hmk)
              clear hW4 st4 hmk k1 k7 k8 kf st HST3 HLS HBK hLs hown3 hgr3 hfr3 g3 c3 f3
              go_wp2_with (at_builtin; refine wpList_append_keep rfl (.tmp 70) (.tmp 72) 31 rfl B 40 i40 (.agg #[.int .i64 0, .int .i64 0, .string ⟨#[]⟩]) 3 32 Try.underlying31 hj1 hj2 hj3 hj4 rfl (by decide) (.slice aV m cV) m (reps m (mkF N)) rfl (HST4.out.rec_.list.alloc _) ⟨W4.heap.size, 0, none⟩ 1 1 [.int .i64 (70000 + (N : Int)), .int .i64 0, .string ⟨#[]⟩] rfl rfl (cell_three_new _ _ _ _ _) (by intro u hu; simp at hu; rcases hu with rfl | rfl | rfl <;> rfl) (by unfold maxLen; omega) (by omega) (by simp; omega) ?_; intro v5 w5 hown5 hgr5 hkp5 hfr5; obtain ⟨a5, c5', rfl, _⟩ := own_view hown5)
              have st5 := HST4.out.grow (by decide) (by decide) HQ2.out HMB4.out (fun _ _ => HCM.out) hgr5 hkp5 hfr5 (by rw [mkF_eq]; exact hown5)
              have HST5 := hideF st5
              clear st5 hown5 hgr5 hkp5 hfr5 HST4 m0 m1 m2 HMB4
              go_loopw [2, 7] (fun l i wr => ∃ (r m' : Nat) (v : Value), r ≤ 60 ∧ i = .int .i64 (r : Nat) ∧ l = v ∧ m' ≤ n + 64 * q + 1 + r ∧ MarkSt w wr B kb mb cs (some #[.int .i64 (70000 + (N : Int)), .int .i64 0, .string ⟨#[]⟩]) 31 40 3 mkF Q N (q + 1) (.slice aF N cF) (.slice aC n cC) (.slice aO (N + q + 1) cO) v m') (fun _ i _ => 60 - (intOf i).toNat)
              case atStart => exact ⟨0, m + 1, _, by omega, rfl, rfl, by omega, HST5.out⟩
              case round =>
                obtain ⟨r, m', v, hr, rfl, rfl, hm', st6⟩ := hrel
                obtain ⟨aV6, cV6, rfl, _⟩ := own_view st6.rec_.list
                have hmk := st6.mark _ rfl
                have m0 : wr.cell? ⟨mb, 0, none⟩ = some (.int .i64 (70000 + (N : Int))) := by rw [cell_of_row wr mb 0 _ 40 (0, 0) hmk]; rfl
                have m1 : wr.cell? ⟨mb, 1, none⟩ = some (.int .i64 0) := by rw [cell_of_row wr mb 1 _ 40 (0, 0) hmk]; rfl
                have m2 : wr.cell? ⟨mb, 2, none⟩ = some (.string ⟨#[]⟩) := by rw [cell_of_row wr mb 2 _ 40 (0, 0) hmk]; rfl
                have hz6 := st6.foot.size
                have HMB6 : Hid (mb ≤ wr.heap.size) := Nat.le_of_lt (lt_of_block hmk)
                have HST6 := hideF st6
                clear st6 hmk
                by_cases hr2 : r < 60 ∧ q = 2
                · obtain ⟨hr60, hq2⟩ := hr2
                  have t2 : ((q : Int) == 2) = true := by simp; omega
                  clear hq2
                  go_wp2_with (at_builtin; refine wpList_append_keep rfl (.tmp 82) (.tmp 84) 31 rfl B 40 i40 (.agg #[.int .i64 0, .int .i64 0, .string ⟨#[]⟩]) 3 32 Try.underlying31 hj1 hj2 hj3 hj4 rfl (by decide) (.slice aV6 m' cV6) m' (reps m' (mkF N)) rfl (HST6.out.rec_.list.alloc _) ⟨wr.heap.size, 0, none⟩ 1 1 [.int .i64 (70000 + (N : Int)), .int .i64 0, .string ⟨#[]⟩] rfl rfl (cell_three_new _ _ _ _ _) (by intro u hu; simp at hu; rcases hu with rfl | rfl | rfl <;> rfl) (by unfold maxLen; omega) (by omega) (by simp; omega) ?_; intro v7 w7 hown7 hgr7 hkp7 hfr7; obtain ⟨a7, c7', rfl, _⟩ := own_view hown7)
                  have st7 := HST6.out.grow (by decide) (by decide) HQ2.out HMB6.out (fun _ _ => HCM.out) hgr7 hkp7 hfr7 (by rw [mkF_eq]; exact hown7)
                  go_roundw
                  case rel => exact ⟨r + 1, m' + 1, _, by omega, by go_num, rfl, by omega, st7⟩
                  case measure => simp [intOf]; omega
                · by_cases hr60 : r < 60
                  · have t2 : ((q : Int) == 2) = false := by simp; omega
                    go_wp2
                    go_roundw
                    case rel => exact ⟨q + 1, m', _, _, by omega, by go_num, rfl, by omega, HST6.out⟩
                    case measure => simp [intOf]; omega
                  · go_wp2
                    go_roundw
                    case rel => exact ⟨q + 1, m', _, _, by omega, by go_num, rfl, by omega, HST6.out⟩
                    case measure => simp [intOf]; omega
            · obtain ⟨u7, k7⟩ := k7
              obtain ⟨u8, k8⟩ := k8
              go_wp2
              go_end0
              have hqe : q = 4 := by omega
              have sF := (HST3.out.field (fun x => #[c0, x, c2, c3, .bool false, c5, c6, .slice none 0 0, .slice aW n cW, c9, c10, c11, c12]) 7 (.slice none 0 0) (by rw [HCS.out]; intro a; rfl) (by decide) (by decide) (fun _ _ => by omega)).field
                (fun x => #[c0, x, c2, c3, .bool false, c5, c6, .slice none 0 0, .slice none 0 0, c9, c10, c11, c12]) 8 (.slice none 0 0) (fun _ => rfl) (by decide) (by decide) (fun _ _ => by omega)
              have hl := sF.rec_.lists
              rw [hqe, HQ.out] at hl
              have hfn := HFL.out
              subst hfn
              exact ⟨rfl, vO, sF.book, hl, sF.foot, sF.oB⟩
end Go.Proofs.Ytcpldcojckhapaa
