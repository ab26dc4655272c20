/-
  
-/
import Derived.Test.YtcpldcojckhapaaGreatBV
import Derived.Test.YtcpldcojckhapaaGreatJ21
import Derived.Test.YtcpldcojckhapaaGreatJ22
import Derived.Test.YtcpldcojckhapaaGreatJ24
import Derived.Test.YtcpldcojckhapaaGreatBS
namespace Go.Proofs.YtcpldcojckhapaaGreat
open Go.RowKit
set_option maxRecDepth 100000 in
set_option maxHeartbeats 16000000 in
theorem frameMarked_any (w : World) (B kb : Nat) (c0 c2 c3 c5 c6 c9 c10 c11 c12 vF vC vW : Value) (N : Nat) (P : Nat -> Prop) (xs : List (Int × Int × ByteArray))
    (hkb : w.heap[kb]? = some (.cells #[c0, vF, c2, c3, .bool false, c5, c6, vC, vW, c9, c10, c11, c12] 33 (0, 0)))
    (hL : ListsIn w B 29 94 3 mkF vF N P) (hap : ∀ g, P g -> vC.ownBlock ≠ some g)
    (hC : w.ownsRow B 94 3 vC xs.length (xs.flatMap encF)) (hW : w.ownsRow B 94 3 vW xs.length (xs.flatMap encF)) (hN : N % 4 = 0) (hN2 : N <= 8000000) (hfs : xs.length <= 1900000) (hB : B <= w.heap.size) :
    Calls Tryz.prog 45 #[.pointer (some ⟨kb, 0, none⟩)] w fun e w' => e = .returned (.tuple #[]) /\ ∃ vF', w'.heap[kb]? = some (.cells #[c0, vF', c2, c3, .bool false, c5, c6, .slice none 0 0, .slice none 0 0, c9, c10, c11, c12] 33 (0, 0)) /\
      ListsIn w' B 29 94 3 mkF vF' (N + 4) (fun g => P g ∨ vC.ownBlock = some g ∨ w.heap.size <= g) /\ Foot w w' kb vF vC /\ ∀ g, vF'.ownBlock = some g -> vF.ownBlock = some g ∨ w.heap.size <= g := by
  have hlt := lt_of_block hkb
  have bO : w.cell? ⟨kb, 1, none⟩ = some (vF) := by rw [cell_of_row w kb 1 _ 33 (0, 0) hkb]; rfl
  have b4 : w.cell? ⟨kb, 4, none⟩ = some (.bool false) := by rw [cell_of_row w kb 4 _ 33 (0, 0) hkb]; rfl
  have bC : w.cell? ⟨kb, 7, none⟩ = some (vC) := by rw [cell_of_row w kb 7 _ 33 (0, 0) hkb]; rfl
  have bW : w.cell? ⟨kb, 8, none⟩ = some (vW) := by rw [cell_of_row w kb 8 _ 33 (0, 0) hkb]; rfl
  have fz : ∀ j, w.frozen? ⟨kb, j, none⟩ = false := fun j => frozen_of_row w kb j _ 33 hkb
  have HKB := hideF hkb
  obtain ⟨aC, dC, rfl, vwC⟩ := own_view hC
  obtain ⟨aW, dW, rfl, vwW⟩ := own_view hW
  obtain ⟨Ls0, hL1, hL2⟩ := hL
  obtain ⟨aF, dF, rfl, _⟩ := own_view hL1
  have HLI : ListsIn w B 29 94 3 mkF (.slice aF N dF) N P := ⟨Ls0, hL1, hL2⟩
  clear hL1 hL2
  obtain ⟨n, hfl⟩ : ∃ n, n = xs.length := ⟨_, rfl⟩
  rw [<- hfl] at bC bW vwC vwW hfs hC hW HKB hap
  have HFL : Hid (n = xs.length) := hfl
  have HC := hideF vwC
  have HW := hideF vwW
  have HAP := hideF hap
  clear vwC vwW hW hfl hkb hap
  go_enter Tryz.func45, Tryz.ntmps45
  go_wp2_with fail
  go_loopw [3] (fun i wr => ∃ q : Nat, q <= n /\ i = .int .i64 (q : Nat) /\ SameH w wr) (fun i _ => n - (intOf i).toNat)
  case atStart => exact ⟨0, Nat.zero_le _, rfl, SameH.refl _⟩
  case round =>
    obtain ⟨q, hq, rfl, hsq⟩ := hrel
    have kc := fun j => hsq.cell ⟨kb, j, none⟩
    have kf : ∀ j, wr.frozen? ⟨kb, j, none⟩ = false := fun j => (hsq.frozen ⟨kb, j, none⟩).trans (fz j)
    by_cases hqn : q < n
    . obtain ⟨g1, rfl, hg1, hc1⟩ := HC.out q hqn
      obtain ⟨g2, rfl, hg2, hc2⟩ := HW.out q hqn
      obtain ⟨x, hf0, hf1, hf2⟩ := atF xs q (by rw [<- HFL.out]; exact hqn)
      have d10 := ((hsq.cell ⟨g1, q * 3, none⟩).trans (hc1 (q * 3) (by omega))).trans hf0
      have d11 := ((hsq.cell ⟨g1, q * 3 + 1, none⟩).trans (hc1 (q * 3 + 1) (by omega))).trans hf1
      have d12 := ((hsq.cell ⟨g1, q * 3 + 2, none⟩).trans (hc1 (q * 3 + 2) (by omega))).trans hf2
      have d20 := ((hsq.cell ⟨g2, q * 3, none⟩).trans (hc2 (q * 3) (by omega))).trans hf0
      have d21 := ((hsq.cell ⟨g2, q * 3 + 1, none⟩).trans (hc2 (q * 3 + 1) (by omega))).trans hf1
      have d22 := ((hsq.cell ⟨g2, q * 3 + 2, none⟩).trans (hc2 (q * 3 + 2) (by omega))).trans hf2
      clear hc1 hc2 hf0 hf1 hf2
      go_wp2_with fail
      go_region
      all_goals go_wp2
      all_goals
        go_roundw
        case rel => exact ⟨q + 1, by omega, by go_num, by first | exact (hsq.setCell kb 4 (.bool false) _ 33 HKB.out rfl).drew | exact hsq.drew.setCell kb 4 (.bool false) _ 33 HKB.out rfl⟩
        case measure => simp [intOf]; omega
    . go_wp2_with fail
      have hwh := hsq.heap
      obtain ⟨W1, hW1⟩ : ∃ W1, W1 = wr.alloc (.cells #[.int .i64 (70000 + (N : Int)), .int .i64 0, .string ⟨#[]⟩] 94) := ⟨_, rfl⟩
      rw [<- hW1]
      obtain ⟨mb, hmb⟩ : ∃ mb, mb = wr.heap.size := ⟨_, rfl⟩
      rw [<- hmb]
      have hmw : mb = w.heap.size := by rw [hmb, hwh]
      have hold : ∀ k, k < w.heap.size -> W1.heap[k]? = w.heap[k]? := fun k hk => by rw [hW1, <- hwh]; exact heap_alloc_old wr _ (by rw [hwh]; exact hk)
      have HMB : Hid (W1.heap[mb]? = some (Obj.cells #[.int .i64 (70000 + (N : Int)), .int .i64 0, .string ⟨#[]⟩] 94 (0, 0))) := by show _ = _; rw [hW1, hmb]; exact heap_alloc_new wr _
      have HF1 : Hid (Foot w W1 kb (.slice aF N dF) (.slice aC n dC)) := by rw [hW1]; exact (hsq.foot kb _ _).alloc _
      have hz1 : w.heap.size < W1.heap.size := by rw [hW1, <- hwh]; simp
      have HMW : Hid (mb = w.heap.size) := hmw
      clear hW1 hmw hmb
      have hC1 : W1.ownsRow B 94 3 (.slice aC n dC) n (xs.flatMap encF) := own_same hC (fun g hg => hold g (hC.lt g hg).2)
      have HCB : Hid (∀ g, Value.ownBlock (.slice aC n dC) = some g -> g < w.heap.size) := fun g hg => (hC.lt g hg).2
      have HCT := hideF (own_block hC)
      have HOLD := hideF hold
      have hP0 : PartC W1 B 94 3 (.slice aC n dC) n 0 (reps n (mkF N)) := PartC.of_own hC1
      clear hwh hold hC1 hC kc kf hsq
      go_loopw [5] (fun i wr => ∃ k : Nat, k <= n /\ i = .int .i64 (k : Nat) /\ PartC wr B 94 3 (.slice aC n dC) n (k * 3) (reps n (mkF N)) /\ W1.grownBy wr (Value.ownBlock (.slice aC n dC))) (fun i _ => n - (intOf i).toNat)
      case atStart => exact ⟨0, Nat.zero_le _, rfl, hP0, grown_refl _ _⟩
      case round =>
        obtain ⟨k, hk, rfl, hP, hG⟩ := hrel
        have hmc : ∀ j, wr.cell? ⟨mb, j, none⟩ = W1.cell? ⟨mb, j, none⟩ := fun j => World.cell?_of_block (hG.block mb (by rw [HMW.out]; exact hz1) (fun e => by have := HCB.out mb e.symm; have := HMW.out; omega))
        have m0 : wr.cell? ⟨mb, 0, none⟩ = some (.int .i64 (70000 + (N : Int))) := (hmc 0).trans (by rw [cell_of_row W1 mb 0 _ 94 (0, 0) HMB.out]; rfl)
        have m1 : wr.cell? ⟨mb, 1, none⟩ = some (.int .i64 0) := (hmc 1).trans (by rw [cell_of_row W1 mb 1 _ 94 (0, 0) HMB.out]; rfl)
        have m2 : wr.cell? ⟨mb, 2, none⟩ = some (.string ⟨#[]⟩) := (hmc 2).trans (by rw [cell_of_row W1 mb 2 _ 94 (0, 0) HMB.out]; rfl)
        clear hmc
        by_cases hkn : k < n
        . obtain ⟨g, rfl, _, _⟩ := HC.out k hkn
          obtain ⟨hce, hfe⟩ := hP.cells
          obtain ⟨u0, x0⟩ := hce (k * 3) (by omega)
          obtain ⟨u1, x1⟩ := hce (k * 3 + 1) (by omega)
          obtain ⟨u2, x2⟩ := hce (k * 3 + 2) (by omega)
          have y0 : (reps n (mkF N))[k * 3]? = some (.int .i64 (70000 + (N : Int))) := by have := rep_at (mkF N) 3 n k 0 rfl hkn (by omega); rw [Nat.add_zero] at this; unfold reps; rw [this]; rfl
          have y1 : (reps n (mkF N))[k * 3 + 1]? = some (.int .i64 0) := by have := rep_at (mkF N) 3 n k 1 rfl hkn (by omega); unfold reps; rw [this]; rfl
          have y2 : (reps n (mkF N))[k * 3 + 2]? = some (.string ⟨#[]⟩) := by have := rep_at (mkF N) 3 n k 2 rfl hkn (by omega); unfold reps; rw [this]; rfl
          have HP3 := hideF (((hP.step y0 (by omega)).step y1 (by omega)).step y2 (by omega))
          have HG3 := hideF (grown_setCell (i := k * 3 + 2) (grown_setCell (i := k * 3 + 1) (grown_setCell (i := k * 3) hG (.int .i64 (70000 + (N : Int)))) (.int .i64 0)) (.string ⟨#[]⟩))
          clear hce y0 y1 y2 hP hG
          go_wp2
          go_roundw
          case rel => exact ⟨k + 1, by omega, by go_num, by rw [show (k + 1) * 3 = k * 3 + 1 + 1 + 1 by omega]; exact HP3.out, HG3.out⟩
          case measure => simp [intOf]; omega
        . go_wp2_with fail
          obtain ⟨cs, hcs⟩ : ∃ cs : Value -> Array Value, cs = fun x => #[c0, x, c2, c3, .bool false, c5, c6, .slice aC n dC, .slice aW n dW, c9, c10, c11, c12] := ⟨_, rfl⟩
          obtain ⟨Q, hQ⟩ : ∃ Q : Nat -> Prop, Q = fun g => P g ∨ Value.ownBlock (.slice aC n dC) = some g ∨ w.heap.size <= g := ⟨_, rfl⟩
          have hst : MarkSt w wr B kb mb cs (some #[.int .i64 (70000 + (N : Int)), .int .i64 0, .string ⟨#[]⟩]) 29 94 3 mkF Q N 0 (.slice aF N dF) (.slice aC n dC) (.slice aF N dF) (.slice aC n dC) n := by
            have hkn2 : k = n := by omega
            subst hkn2
            have hsame : ∀ j, j < w.heap.size -> Value.ownBlock (.slice aC k dC) ≠ some j -> wr.heap[j]? = w.heap[j]? := fun j hj hne => (hG.block j (by omega) (fun ee => hne ee.symm)).trans (HOLD.out j hj)
            have hown := hP.own (reps_len k 3 (mkF N) rfl) (by omega)
            have hLI : ListsIn wr B 29 94 3 mkF (.slice aF N dF) N P := HLI.carry (fun j cur t hc hor _ => hsame j (lt_of_block hc) (fun ee => by
              rcases hor with r | r
              . obtain ⟨c, h40⟩ := HCT.out j ee
                obtain ⟨Ls, h1, _⟩ := HLI
                obtain ⟨c', h31⟩ := own_block h1 j r
                rw [h31] at h40
                simp at h40
              . exact HAP.out j r ee))
            refine ⟨Rec.start hLI hown HAP.out (fun g hg => by rw [hQ]; exact .inl hg) (fun g hg => by rw [hQ]; exact .inr (.inl hg)), ?_, ?_, ?_, fun g hg => .inl hg, fun g hg => .inl hg⟩
            . rw [hsame kb hlt (fun ee => by
                obtain ⟨c, h40⟩ := HCT.out kb ee
                rw [HKB.out] at h40
                simp at h40), HKB.out, hcs]
            . intro c hc
              simp only [Option.some.injEq] at hc
              subst hc
              exact (hG.block mb (by rw [HMW.out]; exact hz1) (fun ee => by have := HCB.out mb ee.symm; have := HMW.out; omega)).trans HMB.out
            . exact HF1.out.grown hG (fun g hg => .inr (.inl hg))
          have HST := hideF hst
          have HCSJ := hideF (show ∀ a b, (cs a).setIfInBounds 1 b = cs b by rw [hcs]; intro a b; rfl)
          have HCS : Hid (cs = fun x => #[c0, x, c2, c3, .bool false, c5, c6, .slice aC n dC, .slice aW n dW, c9, c10, c11, c12]) := hcs
          have HQ : Hid (Q = fun g => P g ∨ Value.ownBlock (.slice aC n dC) = some g ∨ w.heap.size <= g) := hQ
          have hkbm : kb < mb := by rw [HMW.out]; exact hlt
          clear hst hcs hQ hP hG HOLD HF1 hP0 HMB m0 m1 m2
          obtain ⟨iO, hi1, hi2, hi3, hi4⟩ := info_parts Tryz.infoOF
          obtain ⟨iE, hj1, hj2, hj3, hj4⟩ := info_parts Tryz.infoEF
          go_loopw [2, 6] (fun l i wr => ∃ (q m : Nat) (v vO : Value), q <= 4 /\ i = .int .i64 (q : Nat) /\ l = v /\ m <= n + 64 * q /\ MarkSt w wr B kb mb cs (some #[.int .i64 (70000 + (N : Int)), .int .i64 0, .string ⟨#[]⟩]) 29 94 3 mkF Q N q (.slice aF N dF) (.slice aC n dC) vO v m) (fun _ i _ => 4 - (intOf i).toNat)
          case atStart => exact ⟨0, n, _, _, by omega, rfl, rfl, by omega, HST.out⟩
          case round =>
            obtain ⟨q, m, v, vO, hq4, rfl, rfl, hm, st⟩ := hrel
            obtain ⟨Ls, hLs, _⟩ := st.rec_.outer
            obtain ⟨aV, dV, rfl, _⟩ := own_view st.rec_.list
            have hsz := st.foot.size
            have hbook := st.book
            rw [HCS.out] at hbook
            have k1 : wr.cell? ⟨kb, 1, none⟩ = some vO := by rw [cell_of_row wr kb 1 _ 33 (0, 0) hbook]; rfl
            have k7 : ∃ u, wr.cell? ⟨kb, 7, none⟩ = some u := ⟨_, by rw [cell_of_row wr kb 7 _ 33 (0, 0) hbook]; rfl⟩
            have k8 : ∃ u, wr.cell? ⟨kb, 8, none⟩ = some u := ⟨_, by rw [cell_of_row wr kb 8 _ 33 (0, 0) hbook]; rfl⟩
            have kf : ∀ j, wr.frozen? ⟨kb, j, none⟩ = false := fun j => frozen_of_row wr kb j _ 33 hbook
            have HST3 := hideF st
            have HLS := hideF hLs
            clear hbook
            by_cases hq : q < 4
            . go_upto_region 14 with (at_builtin; refine wpList_append_keep rfl (.tmp 64) (.tmp 66) 25 rfl B 29 iO (.slice none 0 0) 1 24 Tryz.underlying25 hi1 hi2 hi3 hi4 rfl (by decide) vO (N + q) Ls rfl (HLS.out.alloc _) ⟨wr.heap.size, 0, none⟩ 1 1 [.slice aV m dV] rfl rfl (cell_one_new _ _ _) (by intro u hu; simp at hu; subst hu; rfl) (by unfold maxLen; omega) (by omega) (by simp; omega) ?_; intro vO' w3 hown3 hgr3 _ hfr3; obtain ⟨aO, dO, rfl, _⟩ := own_view hown3; have g3 : w3.heap[kb]? = wr.heap[kb]? := (book_kept HST3.out HLS.out (by decide) hgr3); have cc3 : w3.cell? ⟨kb, 1, none⟩ = some vO := ((World.cell?_of_block g3).trans k1); have f3 : w3.frozen? ⟨kb, 1, none⟩ = false := ((World.frozen?_of_block g3).trans (kf 1)))
              have st4 := HST3.out.push 1 HCSJ.out hq hN (by decide) (by decide) (by decide) (by omega) (fun _ hc => by omega) HLS.out hgr3 hfr3 hown3
              obtain ⟨W4, hW4⟩ : ∃ W4, W4 = w3.setCell ⟨kb, 1, none⟩ (.slice aO (N + q + 1) dO) := ⟨_, rfl⟩
              rw [<- hW4] at st4 ⊢
              have hmk := st4.mark _ rfl
              have m0 : W4.cell? ⟨mb, 0, none⟩ = some (.int .i64 (70000 + (N : Int))) := by rw [cell_of_row W4 mb 0 _ 94 (0, 0) hmk]; rfl
              have m1 : W4.cell? ⟨mb, 1, none⟩ = some (.int .i64 0) := by rw [cell_of_row W4 mb 1 _ 94 (0, 0) hmk]; rfl
              have m2 : W4.cell? ⟨mb, 2, none⟩ = some (.string ⟨#[]⟩) := by rw [cell_of_row W4 mb 2 _ 94 (0, 0) hmk]; rfl
              have HMBx : Hid (mb <= W4.heap.size) := Nat.le_of_lt (lt_of_block hmk)
              have hz4 := st4.foot.size
              have HST4 := hideF st4
              have HQ2 : Hid (∀ g, w.heap.size <= g -> Q g) := fun g hg => by rw [HQ.out]; exact .inr (.inr hg)
              have HCM : Hid (∀ c : Array Value, ((some #[.int .i64 (70000 + (N : Int)), .int .i64 0, .string ⟨#[]⟩]) : Option (Array Value)) = some c -> Value.ownBlock (.slice aC n dC) ≠ some mb) := fun c hc ee => by have := HCB.out mb ee; have := HMW.out; omega
              clear hW4 st4 k1 k7 k8 kf st HST3 HLS hLs hown3 hgr3 hfr3 g3 cc3 f3 hmk
              go_wp2_with (at_builtin; refine wpList_append_keep rfl (.tmp 70) (.tmp 72) 29 rfl B 94 iE (.agg #[.int .i64 0, .int .i64 0, .string ⟨#[]⟩]) 3 32 Tryz.underlying29 hj1 hj2 hj3 hj4 rfl (by decide) (.slice aV m dV) m (reps m (mkF N)) rfl (HST4.out.rec_.list.alloc _) ⟨W4.heap.size, 0, none⟩ 1 1 [.int .i64 (70000 + (N : Int)), .int .i64 0, .string ⟨#[]⟩] rfl rfl (cell_three_new _ _ _ _ _) (by intro u hu; simp at hu; rcases hu with rfl | rfl | rfl <;> rfl) (by unfold maxLen; omega) (by omega) (by simp; omega) ?_; intro v5 w5 hown5 hgr5 hkp5 hfr5; obtain ⟨a5, d5, rfl, _⟩ := own_view hown5)
              have st5 := HST4.out.grow (by decide) (by decide) HQ2.out HMBx.out HCM.out hgr5 hkp5 hfr5 hown5
              have HST5 := hideF st5
              clear st5 hown5 hgr5 hkp5 hfr5 HST4 HMBx m0 m1 m2
              go_loopw [2, 7] (fun l i wr => ∃ (r m' : Nat) (v : Value), r <= 60 /\ i = .int .i64 (r : Nat) /\ l = v /\ m' <= n + 64 * q + 1 + r /\ MarkSt w wr B kb mb cs (some #[.int .i64 (70000 + (N : Int)), .int .i64 0, .string ⟨#[]⟩]) 29 94 3 mkF Q N (q + 1) (.slice aF N dF) (.slice aC n dC) (.slice aO (N + q + 1) dO) v m') (fun _ i _ => 60 - (intOf i).toNat)
              case atStart => exact ⟨0, m + 1, _, by omega, rfl, rfl, by omega, HST5.out⟩
              case round =>
                obtain ⟨r, m', v, hr, rfl, rfl, hm', st6⟩ := hrel
                obtain ⟨aV6, dV6, rfl, _⟩ := own_view st6.rec_.list
                have hmk := st6.mark _ rfl
                have m0 : wr.cell? ⟨mb, 0, none⟩ = some (.int .i64 (70000 + (N : Int))) := by rw [cell_of_row wr mb 0 _ 94 (0, 0) hmk]; rfl
                have m1 : wr.cell? ⟨mb, 1, none⟩ = some (.int .i64 0) := by rw [cell_of_row wr mb 1 _ 94 (0, 0) hmk]; rfl
                have m2 : wr.cell? ⟨mb, 2, none⟩ = some (.string ⟨#[]⟩) := by rw [cell_of_row wr mb 2 _ 94 (0, 0) hmk]; rfl
                have HMBx : Hid (mb <= wr.heap.size) := Nat.le_of_lt (lt_of_block hmk)
                have hz6 := st6.foot.size
                have HST6 := hideF st6
                clear st6 hmk
                by_cases hr2 : r < 60 /\ q = 2
                . obtain ⟨hr60, hq2⟩ := hr2
                  have t2 : ((q : Int) == 2) = true := by simp; omega
                  clear hq2
                  go_wp2_with (at_builtin; refine wpList_append_keep rfl (.tmp 82) (.tmp 84) 29 rfl B 94 iE (.agg #[.int .i64 0, .int .i64 0, .string ⟨#[]⟩]) 3 32 Tryz.underlying29 hj1 hj2 hj3 hj4 rfl (by decide) (.slice aV6 m' dV6) m' (reps m' (mkF N)) rfl (HST6.out.rec_.list.alloc _) ⟨wr.heap.size, 0, none⟩ 1 1 [.int .i64 (70000 + (N : Int)), .int .i64 0, .string ⟨#[]⟩] rfl rfl (cell_three_new _ _ _ _ _) (by intro u hu; simp at hu; rcases hu with rfl | rfl | rfl <;> rfl) (by unfold maxLen; omega) (by omega) (by simp; omega) ?_; intro v7 w7 hown7 hgr7 hkp7 hfr7; obtain ⟨a7, d7, rfl, _⟩ := own_view hown7)
                  have st7 := HST6.out.grow (by decide) (by decide) HQ2.out HMBx.out HCM.out hgr7 hkp7 hfr7 hown7
                  go_roundw
                  case rel => exact ⟨r + 1, m' + 1, _, by omega, by go_num, rfl, by omega, st7⟩
                  case measure => simp [intOf]; omega
                . by_cases hr60 : r < 60
                  . have t2 : ((q : Int) == 2) = false := by simp; omega
                    go_wp2
                    go_roundw
                    case rel => exact ⟨q + 1, m', _, _, by omega, by go_num, rfl, by omega, HST6.out⟩
                    case measure => simp [intOf]; omega
                  . go_wp2
                    go_roundw
                    case rel => exact ⟨q + 1, m', _, _, by omega, by go_num, rfl, by omega, HST6.out⟩
                    case measure => simp [intOf]; omega
            . obtain ⟨u7, k7⟩ := k7
              obtain ⟨u8, k8⟩ := k8
              go_wp2
              go_end0
              have hqe : q = 4 := by omega
              have sF := (HST3.out.field (fun x => #[c0, x, c2, c3, .bool false, c5, c6, .slice none 0 0, .slice aW n dW, c9, c10, c11, c12]) 7 (.slice none 0 0) (by rw [HCS.out]; intro a; rfl) (by decide) (by decide) (fun _ hc => by omega)).field
                (fun x => #[c0, x, c2, c3, .bool false, c5, c6, .slice none 0 0, .slice none 0 0, c9, c10, c11, c12]) 8 (.slice none 0 0) (fun _ => rfl) (by decide) (by decide) (fun _ hc => by omega)
              have hl := sF.rec_.lists
              rw [hqe, HQ.out] at hl
              have hfn := HFL.out
              subst hfn
              exact ⟨rfl, vO, sF.book, hl, sF.foot, sF.oB⟩
end Go.Proofs.YtcpldcojckhapaaGreat

namespace Go.Proofs.YtcpldcojckhapaaGreat
open Go.RowKit
set_option maxRecDepth 100000 in
set_option maxHeartbeats 4000000 in
theorem ends_any (w : World) (B kb : Nat) (oI oF oA oT cI wI cF wF cA wA cT wT : Value) (nI nF nA nT : Nat) (pI pF pA pT : Nat -> Prop) (xI : List Int) (xF : List (Int × Int × ByteArray)) (xA : List (Int × Int × Int × ByteArray)) (xT : List ByteArray)
    (hkb : w.heap[kb]? = some (.cells #[oI, oF, oA, oT, .bool false, cI, wI, cF, wF, cT, wT, cA, wA] 33 (0, 0)))
    (hLI : ListsIn w B 28 3 1 mkI oI nI pI) (hPI : ∀ g, pI g -> cI.ownBlock ≠ some g) (hLF : ListsIn w B 29 94 3 mkF oF nF pF) (hPF : ∀ g, pF g -> cF.ownBlock ≠ some g) (hLA : ListsIn w B 31 77 4 mkA oA nA pA) (hPA : ∀ g, pA g -> cA.ownBlock ≠ some g) (hLT : ListsIn w B 30 9 1 mkT oT nT pT) (hPT : ∀ g, pT g -> cT.ownBlock ≠ some g)
    (hCI : w.ownsRow B 3 1 cI xI.length (xI.flatMap encI)) (hWI : w.ownsRow B 3 1 wI xI.length (xI.flatMap encI)) (hCF : w.ownsRow B 94 3 cF xF.length (xF.flatMap encF)) (hWF : w.ownsRow B 94 3 wF xF.length (xF.flatMap encF)) (hCA : w.ownsRow B 77 4 cA xA.length (xA.flatMap encA)) (hWA : w.ownsRow B 77 4 wA xA.length (xA.flatMap encA)) (hCT : w.ownsRow B 9 1 cT xT.length (xT.flatMap encT)) (hWT : w.ownsRow B 9 1 wT xT.length (xT.flatMap encT))
    (hnI : nI % 4 = 0 /\ nI <= 7000000) (hxI : xI.length <= 1900000) (hnF : nF % 4 = 0 /\ nF <= 7000000) (hxF : xF.length <= 1900000) (hnA : nA % 4 = 0 /\ nA <= 7000000) (hxA : xA.length <= 1900000) (hnT : nT % 4 = 0 /\ nT <= 7000000) (hxT : xT.length <= 1900000) (hB : B <= w.heap.size) (hkB : B <= kb) :
    Calls Tryz.prog 11 #[.pointer (some ⟨kb, 0, none⟩)] w fun e w' => e = .returned (.bool true) /\ Below B w w' := by
  go_enter Tryz.func11, Tryz.ntmps11
  have hBel0 : Below B w w := Below.refl _ _
  go_wp2_with fail
  refine (intMarked_any w B kb _ _ _ _ _ _ _ _ _ oI cI wI nI pI xI hkb hLI hPI hCI hWI hnI.1 (by omega) hxI (by omega)).mono ?_
  rintro e w1 ⟨rfl, vI, hk1, hMI, hF1, _⟩
  have hO1 := lists_block hLI
  have hCb1 := own_block hCI
  have hLF_1 := foot_lists hF1 hkb hO1 hCb1 hLF (by decide) (by decide) (by decide)
  have hCF_1 := foot_own hF1 hkb hO1 hCb1 hCF (by decide) (by decide) (by decide)
  have hWF_1 := foot_own hF1 hkb hO1 hCb1 hWF (by decide) (by decide) (by decide)
  have hLA_1 := foot_lists hF1 hkb hO1 hCb1 hLA (by decide) (by decide) (by decide)
  have hCA_1 := foot_own hF1 hkb hO1 hCb1 hCA (by decide) (by decide) (by decide)
  have hWA_1 := foot_own hF1 hkb hO1 hCb1 hWA (by decide) (by decide) (by decide)
  have hLT_1 := foot_lists hF1 hkb hO1 hCb1 hLT (by decide) (by decide) (by decide)
  have hCT_1 := foot_own hF1 hkb hO1 hCb1 hCT (by decide) (by decide) (by decide)
  have hWT_1 := foot_own hF1 hkb hO1 hCb1 hWT (by decide) (by decide) (by decide)
  have hs1 := hF1.size
  have hBel1 : Below B w w1 := hBel0.trans (hF1.below hkB (lists_base hLI) (fun g hg => (hCI.lt g hg).1) (by omega))
  go_wp2_with fail
  refine (frameMarked_any w1 B kb _ _ _ _ _ _ _ _ _ oF cF wF nF pF xF hk1 hLF_1 hPF hCF_1 hWF_1 hnF.1 (by omega) hxF (by omega)).mono ?_
  rintro e w2 ⟨rfl, vF, hk2, hMF, hF2, _⟩
  have hO2 := lists_block hLF_1
  have hCb2 := own_block hCF_1
  have hLI_2 := foot_lists hF2 hk1 hO2 hCb2 hMI (by decide) (by decide) (by decide)
  have hLA_2 := foot_lists hF2 hk1 hO2 hCb2 hLA_1 (by decide) (by decide) (by decide)
  have hCA_2 := foot_own hF2 hk1 hO2 hCb2 hCA_1 (by decide) (by decide) (by decide)
  have hWA_2 := foot_own hF2 hk1 hO2 hCb2 hWA_1 (by decide) (by decide) (by decide)
  have hLT_2 := foot_lists hF2 hk1 hO2 hCb2 hLT_1 (by decide) (by decide) (by decide)
  have hCT_2 := foot_own hF2 hk1 hO2 hCb2 hCT_1 (by decide) (by decide) (by decide)
  have hWT_2 := foot_own hF2 hk1 hO2 hCb2 hWT_1 (by decide) (by decide) (by decide)
  have hs2 := hF2.size
  have hBel2 : Below B w w2 := hBel1.trans (hF2.below hkB (lists_base hLF_1) (fun g hg => (hCF_1.lt g hg).1) (by omega))
  go_wp2_with fail
  refine (textMarked_any w2 B kb _ _ _ _ _ _ _ _ _ oT cT wT nT pT xT hk2 hLT_2 hPT hCT_2 hWT_2 hnT.1 (by omega) hxT (by omega)).mono ?_
  rintro e w3 ⟨rfl, vT, hk3, hMT, hF3, _⟩
  have hO3 := lists_block hLT_2
  have hCb3 := own_block hCT_2
  have hLI_3 := foot_lists hF3 hk2 hO3 hCb3 hLI_2 (by decide) (by decide) (by decide)
  have hLF_3 := foot_lists hF3 hk2 hO3 hCb3 hMF (by decide) (by decide) (by decide)
  have hLA_3 := foot_lists hF3 hk2 hO3 hCb3 hLA_2 (by decide) (by decide) (by decide)
  have hCA_3 := foot_own hF3 hk2 hO3 hCb3 hCA_2 (by decide) (by decide) (by decide)
  have hWA_3 := foot_own hF3 hk2 hO3 hCb3 hWA_2 (by decide) (by decide) (by decide)
  have hs3 := hF3.size
  have hBel3 : Below B w w3 := hBel2.trans (hF3.below hkB (lists_base hLT_2) (fun g hg => (hCT_2.lt g hg).1) (by omega))
  go_wp2_with fail
  refine (actMarked_any w3 B kb _ _ _ _ _ _ _ _ _ oA cA wA nA pA xA hk3 hLA_3 hPA hCA_3 hWA_3 hnA.1 (by omega) hxA (by omega)).mono ?_
  rintro e w4 ⟨rfl, vA, hk4, hMA, hF4, _⟩
  have hO4 := lists_block hLA_3
  have hCb4 := own_block hCA_3
  have hLI_4 := foot_lists hF4 hk3 hO4 hCb4 hLI_3 (by decide) (by decide) (by decide)
  have hLF_4 := foot_lists hF4 hk3 hO4 hCb4 hLF_3 (by decide) (by decide) (by decide)
  have hLT_4 := foot_lists hF4 hk3 hO4 hCb4 hMT (by decide) (by decide) (by decide)
  have hs4 := hF4.size
  have hBel4 : Below B w w4 := hBel3.trans (hF4.below hkB (lists_base hLA_3) (fun g hg => (hCA_3.lt g hg).1) (by omega))
  go_wp2_with fail
  refine (still_any w4 B kb vI vF vA vT _ _ _ _ _ _ _ _ (nI + 4) (nF + 4) (nA + 4) (nT + 4) [] [] [] [] hk4 hLI_4.lists hLF_4.lists hMA.lists hLT_4.lists (World.ownsRow_nil _ _ _ _) (World.ownsRow_nil _ _ _ _) (World.ownsRow_nil _ _ _ _) (World.ownsRow_nil _ _ _ _) (World.ownsRow_nil _ _ _ _) (World.ownsRow_nil _ _ _ _) (World.ownsRow_nil _ _ _ _) (World.ownsRow_nil _ _ _ _) (by omega) (by decide) (by omega) (by decide) (by omega) (by decide) (by omega) (by decide)).mono ?_
  rintro e w5 ⟨rfl, hb5⟩
  go_wp2
  go_ret
  exact ⟨rfl, hBel4.trans (hb5.mono (by omega))⟩
end Go.Proofs.YtcpldcojckhapaaGreat

set_option maxRecDepth 100000
namespace Go.Proofs.YtcpldcojckhapaaGreat
open Go.RowKit
structure Bks where
  (oI oF oA oT cI wI cF wF cA wA cT wT : Value)
  (nI nF nA nT : Nat)
  (pI pF pA pT : Nat -> Prop)
  xI : List Int
  xF : List (Int × Int × ByteArray)
  xA : List (Int × Int × Int × ByteArray)
  xT : List ByteArray
def Bks.ints (b : Bks) (g : Nat) : Prop := b.pI g ∨ b.cI.ownBlock = some g ∨ b.wI.ownBlock = some g
def Bks.on (b : Bks) (kb g : Nat) : Prop := g = kb ∨ b.oI.ownBlock = some g ∨ b.oF.ownBlock = some g ∨ b.oA.ownBlock = some g ∨ b.oT.ownBlock = some g ∨ b.ints g ∨ (b.pF g ∨ b.cF.ownBlock = some g ∨ b.wF.ownBlock = some g) ∨ (b.pA g ∨ b.cA.ownBlock = some g ∨ b.wA.ownBlock = some g) ∨ (b.pT g ∨ b.cT.ownBlock = some g ∨ b.wT.ownBlock = some g)
structure BookIn (w : World) (B kb m : Nat) (b : Bks) : Prop where
  at' : w.heap[kb]? = some (.cells #[b.oI, b.oF, b.oA, b.oT, .bool false, b.cI, b.wI, b.cF, b.wF, b.cT, b.wT, b.cA, b.wA] 33 (0, 0))
  LI : ListsIn w B 28 3 1 mkI b.oI b.nI b.pI
  LF : ListsIn w B 29 94 3 mkF b.oF b.nF b.pF
  LA : ListsIn w B 31 77 4 mkA b.oA b.nA b.pA
  LT : ListsIn w B 30 9 1 mkT b.oT b.nT b.pT
  PI : ∀ g, b.pI g -> b.cI.ownBlock ≠ some g
  PF : ∀ g, b.pF g -> b.cF.ownBlock ≠ some g
  PA : ∀ g, b.pA g -> b.cA.ownBlock ≠ some g
  PT : ∀ g, b.pT g -> b.cT.ownBlock ≠ some g
  CI : w.ownsRow B 3 1 b.cI b.xI.length (b.xI.flatMap encI)
  WI : w.ownsRow B 3 1 b.wI b.xI.length (b.xI.flatMap encI)
  CF : w.ownsRow B 94 3 b.cF b.xF.length (b.xF.flatMap encF)
  WF : w.ownsRow B 94 3 b.wF b.xF.length (b.xF.flatMap encF)
  CA : w.ownsRow B 77 4 b.cA b.xA.length (b.xA.flatMap encA)
  WA : w.ownsRow B 77 4 b.wA b.xA.length (b.xA.flatMap encA)
  CT : w.ownsRow B 9 1 b.cT b.xT.length (b.xT.flatMap encT)
  WT : w.ownsRow B 9 1 b.wT b.xT.length (b.xT.flatMap encT)
  nI : b.nI % 4 = 0 /\ b.nI <= 4 * m
  nF : b.nF % 4 = 0 /\ b.nF <= 4 * m
  nA : b.nA % 4 = 0 /\ b.nA <= 4 * m
  nT : b.nT % 4 = 0 /\ b.nT <= 4 * m
  xI : b.xI.length <= 1900000
  xF : b.xF.length <= 1900000
  xA : b.xA.length <= 1900000
  xT : b.xT.length <= 1900000
  here : ∀ g, b.on kb g -> g < w.heap.size
  lo : B <= kb /\ B <= w.heap.size
theorem BookIn.frame {w w' : World} {B kb m : Nat} {b : Bks} (h : BookIn w B kb m b) (hs : w.heap.size <= w'.heap.size) (hk : ∀ g cur t, w.heap[g]? = some (.cells cur t (0, 0)) -> b.on kb g -> (t = 3 -> b.ints g) -> t ≠ 163 -> w'.heap[g]? = w.heap[g]?) : BookIn w' B kb m b := by
  have hkb := hk kb _ _ h.at' (.inl rfl) (fun e => absurd e (by decide)) (by decide)
  refine ⟨hkb.trans h.at', h.LI.carry fun k cur t hc ho ht => ?_, h.LF.carry fun k cur t hc ho ht => ?_, h.LA.carry fun k cur t hc ho ht => ?_, h.LT.carry fun k cur t hc ho ht => ?_, h.PI, h.PF, h.PA, h.PT, own_same h.CI fun g hg => ?_, own_same h.WI fun g hg => ?_, own_same h.CF fun g hg => ?_, own_same h.WF fun g hg => ?_, own_same h.CA fun g hg => ?_, own_same h.WA fun g hg => ?_, own_same h.CT fun g hg => ?_, own_same h.WT fun g hg => ?_, h.nI, h.nF, h.nA, h.nT, h.xI, h.xF, h.xA, h.xT, fun g hg => Nat.lt_of_lt_of_le (h.here g hg) hs, h.lo.1, Nat.le_trans h.lo.2 hs⟩
  . have h6 : t ≠ 163 := by rcases ht with r | r <;> subst r <;> decide
    rcases ho with r | r
    . refine hk k cur t hc (.inr (.inl r)) (fun e => ?_) h6
      obtain ⟨c', hc'⟩ := lists_block h.LI k r
      rw [hc'] at hc
      simp at hc
      rw [<- hc.2] at e
      exact absurd e (by decide)
    . exact hk k cur t hc (.inr (.inr (.inr (.inr (.inr (.inl (.inl r))))))) (fun _ => .inl r) h6
  . have h3 : t ≠ 3 := by rcases ht with r | r <;> subst r <;> decide
    have h6 : t ≠ 163 := by rcases ht with r | r <;> subst r <;> decide
    rcases ho with r | r
    . exact hk k cur t hc (.inr (.inr (.inl r))) (fun e => absurd e h3) h6
    . exact hk k cur t hc (.inr (.inr (.inr (.inr (.inr (.inr (.inl (.inl r)))))))) (fun e => absurd e h3) h6
  . have h3 : t ≠ 3 := by rcases ht with r | r <;> subst r <;> decide
    have h6 : t ≠ 163 := by rcases ht with r | r <;> subst r <;> decide
    rcases ho with r | r
    . exact hk k cur t hc (.inr (.inr (.inr (.inl r)))) (fun e => absurd e h3) h6
    . exact hk k cur t hc (.inr (.inr (.inr (.inr (.inr (.inr (.inr (.inl (.inl r))))))))) (fun e => absurd e h3) h6
  . have h3 : t ≠ 3 := by rcases ht with r | r <;> subst r <;> decide
    have h6 : t ≠ 163 := by rcases ht with r | r <;> subst r <;> decide
    rcases ho with r | r
    . exact hk k cur t hc (.inr (.inr (.inr (.inr (.inl r))))) (fun e => absurd e h3) h6
    . exact hk k cur t hc (.inr (.inr (.inr (.inr (.inr (.inr (.inr (.inr (.inl r))))))))) (fun e => absurd e h3) h6
  . obtain ⟨c, hc⟩ := own_block h.CI g hg
    exact hk g c 3 hc (.inr (.inr (.inr (.inr (.inr (.inl (.inr (.inl hg)))))))) (fun _ => .inr (.inl hg)) (by decide)
  . obtain ⟨c, hc⟩ := own_block h.WI g hg
    exact hk g c 3 hc (.inr (.inr (.inr (.inr (.inr (.inl (.inr (.inr hg)))))))) (fun _ => .inr (.inr hg)) (by decide)
  . obtain ⟨c, hc⟩ := own_block h.CF g hg
    exact hk g c 94 hc (.inr (.inr (.inr (.inr (.inr (.inr (.inl (.inr (.inl hg))))))))) (fun e => absurd e (by decide)) (by decide)
  . obtain ⟨c, hc⟩ := own_block h.WF g hg
    exact hk g c 94 hc (.inr (.inr (.inr (.inr (.inr (.inr (.inl (.inr (.inr hg))))))))) (fun e => absurd e (by decide)) (by decide)
  . obtain ⟨c, hc⟩ := own_block h.CA g hg
    exact hk g c 77 hc (.inr (.inr (.inr (.inr (.inr (.inr (.inr (.inl (.inr (.inl hg)))))))))) (fun e => absurd e (by decide)) (by decide)
  . obtain ⟨c, hc⟩ := own_block h.WA g hg
    exact hk g c 77 hc (.inr (.inr (.inr (.inr (.inr (.inr (.inr (.inl (.inr (.inr hg)))))))))) (fun e => absurd e (by decide)) (by decide)
  . obtain ⟨c, hc⟩ := own_block h.CT g hg
    exact hk g c 9 hc (.inr (.inr (.inr (.inr (.inr (.inr (.inr (.inr (.inr (.inl hg)))))))))) (fun e => absurd e (by decide)) (by decide)
  . obtain ⟨c, hc⟩ := own_block h.WT g hg
    exact hk g c 9 hc (.inr (.inr (.inr (.inr (.inr (.inr (.inr (.inr (.inr (.inr hg)))))))))) (fun e => absurd e (by decide)) (by decide)
theorem BookIn.below {w w' : World} {B kb m : Nat} {b : Bks} (h : BookIn w B kb m b) (hb : Below w.heap.size w w') : BookIn w' B kb m b :=
  h.frame hb.size (fun g _ _ hg _ _ _ => hb.block g (lt_of_block hg))
end Go.Proofs.YtcpldcojckhapaaGreat
