/-
  The book of package latchlaw: 'intMarked': the list of its kind that came last is marked and recorded.
-/
import Derived.Test.YtcpldcojckhapaaBV
namespace Go.Proofs.Ytcpldcojckhapaa
open Go.RowKit

set_option maxRecDepth 100000 in
set_option maxRecDepth 100000 in
set_option maxHeartbeats 16000000 in
theorem intMarked_any (w : World) (B kb : Nat) (c1 c2 c3 c7 c8 c9 c10 c11 c12 vF vC vW : Value) (N : Nat) (P : Nat → Prop) (xs : List Int)
    (hkb : w.heap[kb]? = some (.cells #[vF, c1, c2, c3, .bool false, vC, vW, c7, c8, c9, c10, c11, c12] 35 (0, 0)))
    (hL : ListsIn w B 30 3 1 mkI vF N P) (hap : ∀ g, P g → vC.ownBlock ≠ some g)
    (hC : w.ownsRow B 3 1 vC xs.length (xs.flatMap encI)) (hW : w.ownsRow B 3 1 vW xs.length (xs.flatMap encI)) (hN : N % 4 = 0) (hN2 : N ≤ 8000000) (hfs : xs.length ≤ 1000000) (hB : B ≤ w.heap.size) :
    Calls Try.prog 41 #[.pointer (some ⟨kb, 0, none⟩)] w fun e w' => e = .returned (.tuple #[]) ∧ ∃ vF', w'.heap[kb]? = some (.cells #[vF', c1, c2, c3, .bool false, .slice none 0 0, .slice none 0 0, c7, c8, c9, c10, c11, c12] 35 (0, 0)) ∧
      ListsIn w' B 30 3 1 mkI vF' (N + 4) (fun g => P g ∨ vC.ownBlock = some g ∨ w.heap.size ≤ g) ∧ Foot w w' kb vF vC ∧ ∀ g, vF'.ownBlock = some g → vF.ownBlock = some g ∨ w.heap.size ≤ g := by
  have hlt := lt_of_block hkb
  have bO : w.cell? ⟨kb, 0, none⟩ = some (vF) := by rw [cell_of_row w kb 0 _ 35 (0, 0) hkb]; rfl
  have b4 : w.cell? ⟨kb, 4, none⟩ = some (.bool false) := by rw [cell_of_row w kb 4 _ 35 (0, 0) hkb]; rfl
  have bC : w.cell? ⟨kb, 5, none⟩ = some (vC) := by rw [cell_of_row w kb 5 _ 35 (0, 0) hkb]; rfl
  have bW : w.cell? ⟨kb, 6, none⟩ = some (vW) := by rw [cell_of_row w kb 6 _ 35 (0, 0) hkb]; rfl
  have fz : ∀ j, w.frozen? ⟨kb, j, none⟩ = false := fun j => frozen_of_row w kb j _ 35 hkb
  have HKB := hideF hkb
  obtain ⟨aC, dC, rfl, vwC⟩ := own_view hC
  obtain ⟨aW, dW, rfl, vwW⟩ := own_view hW
  obtain ⟨Ls0, hL1, hL2⟩ := hL
  obtain ⟨aF, dF, rfl, _⟩ := own_view hL1
  have HLI : ListsIn w B 30 3 1 mkI (.slice aF N dF) N P := ⟨Ls0, hL1, hL2⟩
  clear hL1 hL2
  obtain ⟨n, hfl⟩ : ∃ n, n = xs.length := ⟨_, rfl⟩
  rw [← hfl] at bC bW vwC vwW hfs hC hW HKB hap
  have HFL : Hid (n = xs.length) := hfl
  have HC := hideF vwC
  have HW := hideF vwW
  have HAP := hideF hap
  clear vwC vwW hW hfl hkb hap
  go_enter Try.func41, Try.ntmps41
  go_wp2_with fail
  go_loopw [3] (fun i wr => ∃ q : Nat, q ≤ n ∧ i = .int .i64 (q : Nat) ∧ SameH w wr) (fun i _ => n - (intOf i).toNat)
  case atStart => exact ⟨0, Nat.zero_le _, rfl, SameH.refl _⟩
  case round =>
    obtain ⟨q, hq, rfl, hsq⟩ := hrel
    have kc := fun j => hsq.cell ⟨kb, j, none⟩
    have kf : ∀ j, wr.frozen? ⟨kb, j, none⟩ = false := fun j => (hsq.frozen ⟨kb, j, none⟩).trans (fz j)
    by_cases hqn : q < n
    · obtain ⟨g1, rfl, hg1, hc1⟩ := HC.out q hqn
      obtain ⟨g2, rfl, hg2, hc2⟩ := HW.out q hqn
      obtain ⟨x, hf0⟩ := atI xs q (by rw [← HFL.out]; exact hqn)
      have d10 := ((hsq.cell ⟨g1, q, none⟩).trans (hc1 (q) (by omega))).trans hf0
      have d20 := ((hsq.cell ⟨g2, q, none⟩).trans (hc2 (q) (by omega))).trans hf0
      clear hc1 hc2 hf0
      go_wp2_with fail
      go_region
      all_goals go_wp2
      all_goals
        go_roundw
        case rel => exact ⟨q + 1, by omega, by go_num, by first | exact (hsq.setCell kb 4 (.bool false) _ 35 HKB.out rfl).drew | exact hsq.drew.setCell kb 4 (.bool false) _ 35 HKB.out rfl⟩
        case measure => simp [intOf]; omega
    · go_wp2_with fail
      have hwh := hsq.heap
      obtain ⟨W1, hW1⟩ : ∃ W1, W1 = wr := ⟨_, rfl⟩
      rw [← hW1]
      have hold : ∀ k, k < w.heap.size → W1.heap[k]? = w.heap[k]? := fun k _ => by rw [hW1, hwh]
      have HF1 : Hid (Foot w W1 kb (.slice aF N dF) (.slice aC n dC)) := by rw [hW1]; exact hsq.foot kb _ _
      have hz1 : w.heap.size ≤ W1.heap.size := by rw [hW1, hwh]; exact Nat.le_refl _
      clear hW1
      have hC1 : W1.ownsRow B 3 1 (.slice aC n dC) n (xs.flatMap encI) := own_same hC (fun g hg => hold g (hC.lt g hg).2)
      have HCB : Hid (∀ g, Value.ownBlock (.slice aC n dC) = some g → g < w.heap.size) := fun g hg => (hC.lt g hg).2
      have HCT := hideF (own_block hC)
      have HOLD := hideF hold
      have hP0 : PartC W1 B 3 1 (.slice aC n dC) n 0 (reps n (mkI N)) := PartC.of_own hC1
      clear hwh hold hC1 hC kc kf hsq
      go_loopw [5] (fun i wr => ∃ k : Nat, k ≤ n ∧ i = .int .i64 (k : Nat) ∧ PartC wr B 3 1 (.slice aC n dC) n (k) (reps n (mkI N)) ∧ W1.grownBy wr (Value.ownBlock (.slice aC n dC))) (fun i _ => n - (intOf i).toNat)
      case atStart => exact ⟨0, Nat.zero_le _, rfl, hP0, grown_refl _ _⟩
      case round =>
        obtain ⟨k, hk, rfl, hP, hG⟩ := hrel
        by_cases hkn : k < n
        · obtain ⟨g, rfl, _, _⟩ := HC.out k hkn
          obtain ⟨hce, hfe⟩ := hP.cells
          obtain ⟨u0, x0⟩ := hce (k) (by omega)
          have y0 : (reps n (mkI N))[k]? = some (.int .i64 (70000 + (N : Int))) := by have := rep_at (mkI N) 1 n k 0 rfl hkn (by omega); simp only [Nat.mul_one, Nat.add_zero] at this; unfold reps; rw [this]; rfl
          have HP3 := hideF (hP.step y0 (by omega))
          have HG3 := hideF (grown_setCell (i := k) hG (.int .i64 (70000 + (N : Int))))
          clear hce y0 hP hG
          go_wp2
          go_roundw
          case rel => exact ⟨k + 1, by omega, by go_num, HP3.out, HG3.out⟩
          case measure => simp [intOf]; omega
        · go_wp2_with fail
          obtain ⟨cs, hcs⟩ : ∃ cs : Value → Array Value, cs = fun x => #[x, c1, c2, c3, .bool false, .slice aC n dC, .slice aW n dW, c7, c8, c9, c10, c11, c12] := ⟨_, rfl⟩
          obtain ⟨Q, hQ⟩ : ∃ Q : Nat → Prop, Q = fun g => P g ∨ Value.ownBlock (.slice aC n dC) = some g ∨ w.heap.size ≤ g := ⟨_, rfl⟩
          have hst : MarkSt w wr B kb kb cs none 30 3 1 mkI Q N 0 (.slice aF N dF) (.slice aC n dC) (.slice aF N dF) (.slice aC n dC) n := by
            have hkn2 : k = n := by omega
            subst hkn2
            have hsame : ∀ j, j < w.heap.size → Value.ownBlock (.slice aC k dC) ≠ some j → wr.heap[j]? = w.heap[j]? := fun j hj hne => (hG.block j (by omega) (fun ee => hne ee.symm)).trans (HOLD.out j hj)
            have hown := hP.own (reps_len k 1 (mkI N) rfl) (by omega)
            have hLI : ListsIn wr B 30 3 1 mkI (.slice aF N dF) N P := HLI.carry (fun j cur t hc hor _ => hsame j (lt_of_block hc) (fun ee => by
              rcases hor with r | r
              · obtain ⟨c, h40⟩ := HCT.out j ee
                obtain ⟨Ls, h1, _⟩ := HLI
                obtain ⟨c', h31⟩ := own_block h1 j r
                rw [h31] at h40
                simp at h40
              · exact HAP.out j r ee))
            refine ⟨Rec.start hLI hown HAP.out (fun g hg => by rw [hQ]; exact .inl hg) (fun g hg => by rw [hQ]; exact .inr (.inl hg)), ?_, ?_, ?_, fun g hg => .inl hg, fun g hg => .inl hg⟩
            · rw [hsame kb hlt (fun ee => by
                obtain ⟨c, h40⟩ := HCT.out kb ee
                rw [HKB.out] at h40
                simp at h40), HKB.out, hcs]
            · intro c hc
              simp at hc
            · exact HF1.out.grown hG (fun g hg => .inr (.inl hg))
          have HST := hideF hst
          have HCSJ := hideF (show ∀ a b, (cs a).setIfInBounds 0 b = cs b by rw [hcs]; intro a b; rfl)
          have HCS : Hid (cs = fun x => #[x, c1, c2, c3, .bool false, .slice aC n dC, .slice aW n dW, c7, c8, c9, c10, c11, c12]) := hcs
          have HQ : Hid (Q = fun g => P g ∨ Value.ownBlock (.slice aC n dC) = some g ∨ w.heap.size ≤ g) := hQ
          clear hst hcs hQ hP hG HOLD HF1 hP0
          obtain ⟨iO, hi1, hi2, hi3, hi4⟩ := info_parts Try.infoOI
          obtain ⟨iE, hj1, hj2, hj3, hj4⟩ := info_parts Try.infoEI
          go_loopw [2, 6] (fun l i wr => ∃ (q m : Nat) (v vO : Value), q ≤ 4 ∧ i = .int .i64 (q : Nat) ∧ l = v ∧ m ≤ n + 64 * q ∧ MarkSt w wr B kb kb cs none 30 3 1 mkI Q N q (.slice aF N dF) (.slice aC n dC) vO v m) (fun _ i _ => 4 - (intOf i).toNat)
          case atStart => exact ⟨0, n, _, _, by omega, rfl, rfl, by omega, HST.out⟩
          case round =>
            obtain ⟨q, m, v, vO, hq4, rfl, rfl, hm, st⟩ := hrel
            obtain ⟨Ls, hLs, _⟩ := st.rec_.outer
            obtain ⟨aV, dV, rfl, _⟩ := own_view st.rec_.list
            have hsz := st.foot.size
            have hbook := st.book
            rw [HCS.out] at hbook
            have k1 : wr.cell? ⟨kb, 0, none⟩ = some vO := by rw [cell_of_row wr kb 0 _ 35 (0, 0) hbook]; rfl
            have k7 : ∃ u, wr.cell? ⟨kb, 5, none⟩ = some u := ⟨_, by rw [cell_of_row wr kb 5 _ 35 (0, 0) hbook]; rfl⟩
            have k8 : ∃ u, wr.cell? ⟨kb, 6, none⟩ = some u := ⟨_, by rw [cell_of_row wr kb 6 _ 35 (0, 0) hbook]; rfl⟩
            have kf : ∀ j, wr.frozen? ⟨kb, j, none⟩ = false := fun j => frozen_of_row wr kb j _ 35 hbook
            have HST3 := hideF st
            have HLS := hideF hLs
            clear hbook
            by_cases hq : q < 4
            · go_upto_region 14 with (at_builtin; refine wpList_append_keep rfl (.tmp 63) (.tmp 65) 26 rfl B 30 iO (.slice none 0 0) 1 24 Try.underlying26 hi1 hi2 hi3 hi4 rfl (by decide) vO (N + q) Ls rfl (HLS.out.alloc _) ⟨wr.heap.size, 0, none⟩ 1 1 [.slice aV m dV] rfl rfl (cell_one_new _ _ _) (by intro u hu; simp at hu; subst hu; rfl) (by unfold maxLen; omega) (by omega) (by simp; omega) ?_; intro vO' w3 hown3 hgr3 _ hfr3; obtain ⟨aO, dO, rfl, _⟩ := own_view hown3; have g3 : w3.heap[kb]? = wr.heap[kb]? := (book_kept HST3.out HLS.out (by decide) hgr3); have cc3 : w3.cell? ⟨kb, 0, none⟩ = some vO := ((World.cell?_of_block g3).trans k1); have f3 : w3.frozen? ⟨kb, 0, none⟩ = false := ((World.frozen?_of_block g3).trans (kf 0)))
              have st4 := HST3.out.push 0 HCSJ.out hq hN (by decide) (by decide) (by decide) (by omega) (fun _ hc => by simp at hc) HLS.out hgr3 hfr3 hown3
              obtain ⟨W4, hW4⟩ : ∃ W4, W4 = w3.setCell ⟨kb, 0, none⟩ (.slice aO (N + q + 1) dO) := ⟨_, rfl⟩
              rw [← hW4] at st4 ⊢
              have HMBx : Hid (kb ≤ W4.heap.size) := Nat.le_of_lt (Nat.lt_of_lt_of_le hlt st4.foot.size)
              have hz4 := st4.foot.size
              have HST4 := hideF st4
              have HQ2 : Hid (∀ g, w.heap.size ≤ g → Q g) := fun g hg => by rw [HQ.out]; exact .inr (.inr hg)
              have HCM : Hid (∀ c : Array Value, (none : Option (Array Value)) = some c → Value.ownBlock (.slice aC n dC) ≠ some kb) := fun c hc ee => by simp at hc
              clear hW4 st4 k1 k7 k8 kf st HST3 HLS hLs hown3 hgr3 hfr3 g3 cc3 f3
              go_wp2_with (at_builtin; refine wpList_append_keep rfl (.tmp 69) (.tmp 71) 30 rfl B 3 iE (.int .i64 0) 1 8 Try.underlying30 hj1 hj2 hj3 hj4 rfl (by decide) (.slice aV m dV) m (reps m (mkI N)) rfl (HST4.out.rec_.list.alloc _) ⟨W4.heap.size, 0, none⟩ 1 1 [.int .i64 (70000 + (N : Int))] rfl rfl (cell_one_new _ _ _) (by intro u hu; simp at hu; subst hu; rfl) (by unfold maxLen; omega) (by omega) (by simp; omega) ?_; intro v5 w5 hown5 hgr5 hkp5 hfr5; obtain ⟨a5, d5, rfl, _⟩ := own_view hown5)
              have st5 := HST4.out.grow (by decide) (by decide) HQ2.out HMBx.out HCM.out hgr5 hkp5 hfr5 hown5
              have HST5 := hideF st5
              clear st5 hown5 hgr5 hkp5 hfr5 HST4 HMBx
              go_loopw [2, 7] (fun l i wr => ∃ (r m' : Nat) (v : Value), r ≤ 60 ∧ i = .int .i64 (r : Nat) ∧ l = v ∧ m' ≤ n + 64 * q + 1 + r ∧ MarkSt w wr B kb kb cs none 30 3 1 mkI Q N (q + 1) (.slice aF N dF) (.slice aC n dC) (.slice aO (N + q + 1) dO) v m') (fun _ i _ => 60 - (intOf i).toNat)
              case atStart => exact ⟨0, m + 1, _, by omega, rfl, rfl, by omega, HST5.out⟩
              case round =>
                obtain ⟨r, m', v, hr, rfl, rfl, hm', st6⟩ := hrel
                obtain ⟨aV6, dV6, rfl, _⟩ := own_view st6.rec_.list
                have HMBx : Hid (kb ≤ wr.heap.size) := Nat.le_of_lt (Nat.lt_of_lt_of_le hlt st6.foot.size)
                have hz6 := st6.foot.size
                have HST6 := hideF st6
                clear st6
                by_cases hr2 : r < 60 ∧ q = 2
                · obtain ⟨hr60, hq2⟩ := hr2
                  have t2 : ((q : Int) == 2) = true := by simp; omega
                  clear hq2
                  go_wp2_with (at_builtin; refine wpList_append_keep rfl (.tmp 81) (.tmp 83) 30 rfl B 3 iE (.int .i64 0) 1 8 Try.underlying30 hj1 hj2 hj3 hj4 rfl (by decide) (.slice aV6 m' dV6) m' (reps m' (mkI N)) rfl (HST6.out.rec_.list.alloc _) ⟨wr.heap.size, 0, none⟩ 1 1 [.int .i64 (70000 + (N : Int))] rfl rfl (cell_one_new _ _ _) (by intro u hu; simp at hu; subst hu; rfl) (by unfold maxLen; omega) (by omega) (by simp; omega) ?_; intro v7 w7 hown7 hgr7 hkp7 hfr7; obtain ⟨a7, d7, rfl, _⟩ := own_view hown7)
                  have st7 := HST6.out.grow (by decide) (by decide) HQ2.out HMBx.out HCM.out hgr7 hkp7 hfr7 hown7
                  go_roundw
                  case rel => exact ⟨r + 1, m' + 1, _, by omega, by go_num, rfl, by omega, st7⟩
                  case measure => simp [intOf]; omega
                · by_cases hr60 : r < 60
                  · have t2 : ((q : Int) == 2) = false := by simp; omega
                    go_wp2
                    go_roundw
                    case rel => exact ⟨q + 1, m', _, _, by omega, by go_num, rfl, by omega, HST6.out⟩
                    case measure => simp [intOf]; omega
                  · go_wp2
                    go_roundw
                    case rel => exact ⟨q + 1, m', _, _, by omega, by go_num, rfl, by omega, HST6.out⟩
                    case measure => simp [intOf]; omega
            · obtain ⟨u7, k7⟩ := k7
              obtain ⟨u8, k8⟩ := k8
              go_wp2
              go_end0
              have hqe : q = 4 := by omega
              have sF := (HST3.out.field (fun x => #[x, c1, c2, c3, .bool false, .slice none 0 0, .slice aW n dW, c7, c8, c9, c10, c11, c12]) 5 (.slice none 0 0) (by rw [HCS.out]; intro a; rfl) (by decide) (by decide) (fun _ hc => by simp at hc)).field
                (fun x => #[x, c1, c2, c3, .bool false, .slice none 0 0, .slice none 0 0, c7, c8, c9, c10, c11, c12]) 6 (.slice none 0 0) (fun _ => rfl) (by decide) (by decide) (fun _ hc => by simp at hc)
              have hl := sF.rec_.lists
              rw [hqe, HQ.out] at hl
              have hfn := HFL.out
              subst hfn
              exact ⟨rfl, vO, sF.book, hl, sF.foot, sF.oB⟩
end Go.Proofs.Ytcpldcojckhapaa
