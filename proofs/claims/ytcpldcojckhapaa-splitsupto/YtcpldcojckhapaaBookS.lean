/-
  The book of package latchlaw: 'still' answers true where every list reads as its owner wrote it.
-/
import Derived.Test.YtcpldcojckhapaaBookV
set_option maxRecDepth 100000
namespace Go.Proofs.Ytcpldcojckhapaa
open Go.RowKit

theorem hideP {p : Prop} (h : p) : Hid p := h
theorem conv4_at (W : World) (g : Nat) (x y z q : Int) (h0 : W.cell? ⟨g, 0, none⟩ = some (.int .u8 x)) (h1 : W.cell? ⟨g, 1, none⟩ = some (.int .u8 y)) (h2 : W.cell? ⟨g, 2, none⟩ = some (.int .u8 z)) (h3 : W.cell? ⟨g, 3, none⟩ = some (.int .u8 q)) :
    (convert 45 9 (.slice (some ⟨g, 0, none⟩) 4 4)).run Try.prog W = .ok (.string ⟨#[UInt8.ofNat x.toNat, UInt8.ofNat y.toNat, UInt8.ofNat z.toNat, UInt8.ofNat q.toNat]⟩) W := by
  rw [run_convert_bytes_string _ 45 9 5 _ 4 4 Try.underlying45 Try.underlying5 Try.underlying9, run_bytesToString _ _ 4 4 [x, y, z, q]]
  · rfl
  · have h := run_loadCells_list (P := Try.prog) W ⟨g, 0, none⟩ [.int .u8 x, .int .u8 y, .int .u8 z, .int .u8 q] (fun j v hj => by
      match j, hj with
      | 0, hj => simp at hj; subst hj; simpa [Addr.add] using h0
      | 1, hj => simp at hj; subst hj; simpa [Addr.add] using h1
      | 2, hj => simp at hj; subst hj; simpa [Addr.add] using h2
      | 3, hj => simp at hj; subst hj; simpa [Addr.add] using h3)
    simpa using h

set_option maxHeartbeats 400000 in
theorem wordL_any (n : Nat) (w : World) (h4 : n < 1000000) :
    Calls Try.prog 39 #[.int .i64 (n : Nat)] w fun e w' => e = .returned (.string (wordB n)) ∧ Below w.heap.size w w' := by
  have c4 : ∀ (W : World) (g : Nat), W.cell? ⟨g, 0, none⟩ = some (.int .u8 ((n : Int) % 256)) → W.cell? ⟨g, 1, none⟩ = some (.int .u8 ((n : Int) / 256 % 256)) → W.cell? ⟨g, 2, none⟩ = some (.int .u8 ((n : Int) / 65536)) → W.cell? ⟨g, 3, none⟩ = some (.int .u8 109) →
      (convert 45 9 (.slice (some ⟨g, 0, none⟩) 4 4)).run Try.prog W = .ok (.string (wordB n)) W := fun W g a b c d => by
    rw [conv4_at W g _ _ _ _ a b c d]
    unfold wordB
    rw [show ((n : Int) % 256).toNat = n % 256 by omega, show ((n : Int) / 256 % 256).toNat = n / 256 % 256 by omega, show ((n : Int) / 65536).toNat = n / 65536 % 256 by omega]
    rfl
  go_enter Try.func39, Try.ntmps39
  go_wp2
  go_ret
  exact ⟨rfl, (Below.refl _ _).alloc (Nat.le_refl _) _⟩
theorem enter25 (x : Value) (w : World) : (callFunc 39 #[x]).run Try.prog w = .ok (.enter 39 #[x]) w := by kernel_rfl
theorem wordL_step (x : Int) (n : Nat) (hx : x = n) (w : World) (h4 : n < 1000000) :
    Calls Try.prog 39 #[.int .i64 x] w fun e w' => ∃ v, e = .returned v ∧ (v = .string (wordB n) ∧ Below w.heap.size w w') := by
  subst hx
  refine (wordL_any n w h4).mono ?_
  rintro e w' ⟨rfl, hb⟩
  exact ⟨_, rfl, rfl, hb⟩

set_option maxRecDepth 100000 in
set_option maxHeartbeats 8000000 in
theorem still_any (w : World) (B kb : Nat) (vI vF vA vT vC vW : Value) (nI nF nA nT : Nat) (fs : List (Nat × Nat × ByteArray))
    (hkb : w.heap[kb]? = some (.cells #[vI, vF, vA, vT, .bool false, .slice none 0 0, .slice none 0 0, vC, vW, .slice none 0 0, .slice none 0 0, .slice none 0 0, .slice none 0 0] 35 (0, 0)))
    (hI : Lists w B 30 3 1 mkI vI nI) (hF : Lists w B 31 40 3 mkF vF nF) (hA : Lists w B 33 75 4 mkA vA nA) (hT : Lists w B 32 9 1 mkT vT nT)
    (hC : w.ownsRow B 40 3 vC fs.length (fs.flatMap Pl.frC)) (hW : w.ownsRow B 40 3 vW fs.length (fs.flatMap Pl.frC)) (hn : nI ≤ 1000 ∧ nF ≤ 1000 ∧ nA ≤ 1000 ∧ nT ≤ 1000) (hfs : fs.length ≤ 2000000) :
    Calls Try.prog 14 #[.pointer (some ⟨kb, 0, none⟩)] w fun e w' => e = .returned (.bool true) ∧ Below w.heap.size w w' := by
  have hlt := lt_of_block hkb
  have b0 : w.cell? ⟨kb, 0, none⟩ = some vI := by rw [cell_of_row w kb 0 _ 35 (0, 0) hkb]; rfl
  have b1 : w.cell? ⟨kb, 1, none⟩ = some vF := by rw [cell_of_row w kb 1 _ 35 (0, 0) hkb]; rfl
  have b2 : w.cell? ⟨kb, 2, none⟩ = some vA := by rw [cell_of_row w kb 2 _ 35 (0, 0) hkb]; rfl
  have b3 : w.cell? ⟨kb, 3, none⟩ = some vT := by rw [cell_of_row w kb 3 _ 35 (0, 0) hkb]; rfl
  have b4 : w.cell? ⟨kb, 4, none⟩ = some (.bool false) := by rw [cell_of_row w kb 4 _ 35 (0, 0) hkb]; rfl
  have b5 : w.cell? ⟨kb, 5, none⟩ = some (.slice none 0 0) := by rw [cell_of_row w kb 5 _ 35 (0, 0) hkb]; rfl
  have b7 : w.cell? ⟨kb, 7, none⟩ = some vC := by rw [cell_of_row w kb 7 _ 35 (0, 0) hkb]; rfl
  have b8 : w.cell? ⟨kb, 8, none⟩ = some vW := by rw [cell_of_row w kb 8 _ 35 (0, 0) hkb]; rfl
  have b9 : w.cell? ⟨kb, 9, none⟩ = some (.slice none 0 0) := by rw [cell_of_row w kb 9 _ 35 (0, 0) hkb]; rfl
  have b11 : w.cell? ⟨kb, 11, none⟩ = some (.slice none 0 0) := by rw [cell_of_row w kb 11 _ 35 (0, 0) hkb]; rfl
  obtain ⟨aI, cI, rfl, vwI⟩ := hI.view (fun _ => rfl)
  obtain ⟨aF, cF, rfl, vwF⟩ := hF.view (fun _ => rfl)
  obtain ⟨aA, cA, rfl, vwA⟩ := hA.view (fun _ => rfl)
  obtain ⟨aT, cT, rfl, vwT⟩ := hT.view (fun _ => rfl)
  obtain ⟨aC, cC, rfl, vwC⟩ := own_view hC
  obtain ⟨aW, cW, rfl, vwW⟩ := own_view hW
  obtain ⟨n, hfl⟩ : ∃ n, n = fs.length := ⟨_, rfl⟩
  rw [← hfl] at b7 b8 vwC vwW hfs
  have HFL : Hid (n = fs.length) := hfl
  have HI := hideP vwI
  have HF := hideP vwF
  have HA := hideP vwA
  have HT := hideP vwT
  have HC := hideP vwC
  have HW := hideP vwW
  clear vwI vwF vwA vwT vwC vwW hI hF hA hT hC hW hkb hfl
  go_enter Try.func14, Try.ntmps14
  go_wp2_with fail
  refine wp_loop_rounds 1 ?_
  rw [rounds_succ]
  go_wp2_with fail
  go_loopw [4] (fun i wr => ∃ q : Nat, q ≤ n ∧ i = .int .i64 (q : Nat) ∧ Below w.heap.size w wr) (fun i _ => n - (intOf i).toNat)
  case atStart => exact ⟨0, Nat.zero_le _, rfl, Below.refl _ _⟩
  case round =>
    obtain ⟨q, hq, rfl, hbq⟩ := hrel
    have kc : ∀ j, wr.cell? ⟨kb, j, none⟩ = w.cell? ⟨kb, j, none⟩ := fun j => hbq.cell (p := ⟨kb, j, none⟩) hlt
    by_cases hqn : q < n
    · obtain ⟨g1, rfl, hg1, hc1⟩ := HC.out q hqn
      obtain ⟨g2, rfl, hg2, hc2⟩ := HW.out q hqn
      have hfa := flat_at fs q (by rw [← HFL.out]; exact hqn)
      obtain ⟨x, hx⟩ : ∃ x, x = fs[q]'(by rw [← HFL.out]; exact hqn) := ⟨_, rfl⟩
      rw [← hx] at hfa
      clear hx
      obtain ⟨m, u, b⟩ := x
      simp only at hfa
      have d10 := ((hbq.cell (p := ⟨g1, q * 3, none⟩) hg1).trans (hc1 (q * 3) (by omega))).trans hfa.1
      have d11 := ((hbq.cell (p := ⟨g1, q * 3 + 1, none⟩) hg1).trans (hc1 (q * 3 + 1) (by omega))).trans hfa.2.1
      have d12 := ((hbq.cell (p := ⟨g1, q * 3 + 2, none⟩) hg1).trans (hc1 (q * 3 + 2) (by omega))).trans hfa.2.2
      have d20 := ((hbq.cell (p := ⟨g2, q * 3, none⟩) hg2).trans (hc2 (q * 3) (by omega))).trans hfa.1
      have d21 := ((hbq.cell (p := ⟨g2, q * 3 + 1, none⟩) hg2).trans (hc2 (q * 3 + 1) (by omega))).trans hfa.2.1
      have d22 := ((hbq.cell (p := ⟨g2, q * 3 + 2, none⟩) hg2).trans (hc2 (q * 3 + 2) (by omega))).trans hfa.2.2
      clear hc1 hc2 hfa
      go_wp2_with fail
      go_quiet (fail)
      go_wp2
      go_roundw
      case rel => exact ⟨q + 1, by omega, by go_num, below_drewN hbq _⟩
      case measure => simp [intOf]; omega
    · go_wp2_with fail
      refine wp_loop_rounds 1 ?_
      rw [rounds_succ]
      go_wp2_with fail
      refine wp_loop_rounds 1 ?_
      rw [rounds_succ]
      go_wp2_with fail
      go_loopw [7] (fun i wr => ∃ q : Nat, q ≤ nI ∧ i = .int .i64 (q : Nat) ∧ Below w.heap.size w wr) (fun i _ => nI - (intOf i).toNat)
      case atStart => exact ⟨0, Nat.zero_le _, rfl, hbq⟩
      case round =>
        obtain ⟨q7, hq7, rfl, hb7⟩ := hrel
        have kc7 : ∀ j, wr.cell? ⟨kb, j, none⟩ = w.cell? ⟨kb, j, none⟩ := fun j => hb7.cell (p := ⟨kb, j, none⟩) hlt
        by_cases hl7 : q7 < nI
        · obtain ⟨gO, rfl, hgO, a', m, c', hcO, hm, hin⟩ := HI.out q7 hl7
          have e7 := (hb7.cell (p := ⟨gO, q7, none⟩) hgO).trans hcO
          have HIN := hideP hin
          clear hin
          go_wp2_with fail
          go_loopw [8] (fun i wr => ∃ r : Nat, r ≤ m ∧ i = .int .i64 (r : Nat) ∧ Below w.heap.size w wr) (fun i _ => m - (intOf i).toNat)
          case atStart => exact ⟨0, Nat.zero_le _, rfl, hb7⟩
          case round =>
            obtain ⟨r, hr, rfl, hbr⟩ := hrel
            have kr : ∀ j, wr.cell? ⟨kb, j, none⟩ = w.cell? ⟨kb, j, none⟩ := fun j => hbr.cell (p := ⟨kb, j, none⟩) hlt
            have er := (hbr.cell (p := ⟨gO, q7, none⟩) hgO).trans hcO
            by_cases hrm : r < m
            · obtain ⟨g, rfl, hg, hcell⟩ := HIN.out r hrm
              simp only [Nat.mul_one] at hcell
              have d0 := (hbr.cell (p := ⟨g, r, none⟩) hg).trans (hcell 0 (by omega))
              simp only [mkI, List.getElem?_cons_zero] at d0
              clear hcell
              go_wp2
              go_roundw
              case rel => exact ⟨r + 1, by omega, by go_num, hbr⟩
              case measure => simp [intOf]; omega
            · go_wp2
              go_roundw
              case rel => exact ⟨q7 + 1, by omega, by go_num, hbr⟩
              case measure => simp [intOf]; omega
        · go_wp2_with fail
          go_loopw [9] (fun i wr => ∃ q : Nat, q ≤ nT ∧ i = .int .i64 (q : Nat) ∧ Below w.heap.size w wr) (fun i _ => nT - (intOf i).toNat)
          case atStart => exact ⟨0, Nat.zero_le _, rfl, hb7⟩
          case round =>
            obtain ⟨q9, hq9, rfl, hb9⟩ := hrel
            have kc9 : ∀ j, wr.cell? ⟨kb, j, none⟩ = w.cell? ⟨kb, j, none⟩ := fun j => hb9.cell (p := ⟨kb, j, none⟩) hlt
            by_cases hl9 : q9 < nT
            · obtain ⟨gO, rfl, hgO, a', m, c', hcO, hm, hin⟩ := HT.out q9 hl9
              have e9 := (hb9.cell (p := ⟨gO, q9, none⟩) hgO).trans hcO
              have HIN := hideP hin
              clear hin
              go_wp2_with fail
              go_loopw [10] (fun i wr => ∃ r : Nat, r ≤ m ∧ i = .int .i64 (r : Nat) ∧ Below w.heap.size w wr) (fun i _ => m - (intOf i).toNat)
              case atStart => exact ⟨0, Nat.zero_le _, rfl, hb9⟩
              case round =>
                obtain ⟨r, hr, rfl, hbr⟩ := hrel
                have kr : ∀ j, wr.cell? ⟨kb, j, none⟩ = w.cell? ⟨kb, j, none⟩ := fun j => hbr.cell (p := ⟨kb, j, none⟩) hlt
                have er := (hbr.cell (p := ⟨gO, q9, none⟩) hgO).trans hcO
                by_cases hrm : r < m
                · obtain ⟨g, rfl, hg, hcell⟩ := HIN.out r hrm
                  simp only [Nat.mul_one] at hcell
                  have d0 := (hbr.cell (p := ⟨g, r, none⟩) hg).trans (hcell 0 (by omega))
                  simp only [mkT, List.getElem?_cons_zero] at d0
                  clear hcell
                  have h4 : q9 / 4 * 4 < 1000000 := by omega
                  have wq : IntKind.i64.wrap ((q9 : Int) / 4 * 4) = (q9 : Int) / 4 * 4 := by rw [IntKind.wrap_i64]; omega
                  have wq2 : IntKind.i64.wrap ((q9 : Int) / 4) = (q9 : Int) / 4 := by rw [IntKind.wrap_i64]; omega
                  have hw0 : w.cell? ⟨g, r, none⟩ = some (.string (wordB (q9 / 4 * 4))) := (hbr.cell (p := ⟨g, r, none⟩) hg).symm.trans d0
                  go_wp2_with fail
                  go_region_law (refine step_call rfl 39 #[.tmp 184] #[3] rfl #[.int .i64 ((q9 : Int) / 4 * 4)] (by simp [Act.eval, Act.put]) (enter25 _ _) _ (wordL_step _ (q9 / 4 * 4) (by omega) _ h4) ?_; rintro v w8 ⟨rfl, hb8⟩; have hb9 : Below w.heap.size w w8 := (bel_then (by first | exact hbr.drew | exact below_drewN hbr _ | exact hbr) hb8); have k8 : ∀ j, w8.cell? ⟨kb, j, none⟩ = w.cell? ⟨kb, j, none⟩ := (fun j => hb9.cell (p := ⟨kb, j, none⟩) hlt); have e8 := (hb9.cell (p := ⟨gO, q9, none⟩) hgO).trans hcO; have d8 := (hb9.cell (p := ⟨g, r, none⟩) hg).trans hw0)
                  all_goals go_wp2
                  all_goals
                    go_roundw
                    case rel => exact ⟨r + 1, by omega, by go_num, hb9⟩
                    case measure => simp [intOf]; omega
                · go_wp2
                  go_roundw
                  case rel => exact ⟨q9 + 1, by omega, by go_num, hbr⟩
                  case measure => simp [intOf]; omega
            · go_wp2_with fail
              go_loopw [11] (fun i wr => ∃ q : Nat, q ≤ nF ∧ i = .int .i64 (q : Nat) ∧ Below w.heap.size w wr) (fun i _ => nF - (intOf i).toNat)
              case atStart => exact ⟨0, Nat.zero_le _, rfl, hb9⟩
              case round =>
                obtain ⟨q11, hq11, rfl, hb11⟩ := hrel
                have kc11 : ∀ j, wr.cell? ⟨kb, j, none⟩ = w.cell? ⟨kb, j, none⟩ := fun j => hb11.cell (p := ⟨kb, j, none⟩) hlt
                by_cases hl11 : q11 < nF
                · obtain ⟨gO, rfl, hgO, a', m, c', hcO, hm, hin⟩ := HF.out q11 hl11
                  have e11 := (hb11.cell (p := ⟨gO, q11, none⟩) hgO).trans hcO
                  have HIN := hideP hin
                  clear hin
                  go_wp2_with fail
                  go_loopw [12] (fun i wr => ∃ r : Nat, r ≤ m ∧ i = .int .i64 (r : Nat) ∧ Below w.heap.size w wr) (fun i _ => m - (intOf i).toNat)
                  case atStart => exact ⟨0, Nat.zero_le _, rfl, hb11⟩
                  case round =>
                    obtain ⟨r, hr, rfl, hbr⟩ := hrel
                    have kr : ∀ j, wr.cell? ⟨kb, j, none⟩ = w.cell? ⟨kb, j, none⟩ := fun j => hbr.cell (p := ⟨kb, j, none⟩) hlt
                    have er := (hbr.cell (p := ⟨gO, q11, none⟩) hgO).trans hcO
                    by_cases hrm : r < m
                    · obtain ⟨g, rfl, hg, hcell⟩ := HIN.out r hrm
                      have d0 := (hbr.cell (p := ⟨g, r * 3, none⟩) hg).trans (hcell 0 (by omega))
                      have d1 := (hbr.cell (p := ⟨g, r * 3 + 1, none⟩) hg).trans (hcell 1 (by omega))
                      have d2 := (hbr.cell (p := ⟨g, r * 3 + 2, none⟩) hg).trans (hcell 2 (by omega))
                      simp only [mkF, List.getElem?_cons_zero, List.getElem?_cons_succ] at d0 d1 d2
                      clear hcell
                      go_wp2
                      go_roundw
                      case rel => exact ⟨r + 1, by omega, by go_num, hbr⟩
                      case measure => simp [intOf]; omega
                    · go_wp2
                      go_roundw
                      case rel => exact ⟨q11 + 1, by omega, by go_num, hbr⟩
                      case measure => simp [intOf]; omega
                · go_wp2_with fail
                  go_loopw [13] (fun i wr => ∃ q : Nat, q ≤ nA ∧ i = .int .i64 (q : Nat) ∧ Below w.heap.size w wr) (fun i _ => nA - (intOf i).toNat)
                  case atStart => exact ⟨0, Nat.zero_le _, rfl, hb11⟩
                  case round =>
                    obtain ⟨q13, hq13, rfl, hb13⟩ := hrel
                    have kc13 : ∀ j, wr.cell? ⟨kb, j, none⟩ = w.cell? ⟨kb, j, none⟩ := fun j => hb13.cell (p := ⟨kb, j, none⟩) hlt
                    by_cases hl13 : q13 < nA
                    · obtain ⟨gO, rfl, hgO, a', m, c', hcO, hm, hin⟩ := HA.out q13 hl13
                      have e13 := (hb13.cell (p := ⟨gO, q13, none⟩) hgO).trans hcO
                      have HIN := hideP hin
                      clear hin
                      go_wp2_with fail
                      go_loopw [14] (fun i wr => ∃ r : Nat, r ≤ m ∧ i = .int .i64 (r : Nat) ∧ Below w.heap.size w wr) (fun i _ => m - (intOf i).toNat)
                      case atStart => exact ⟨0, Nat.zero_le _, rfl, hb13⟩
                      case round =>
                        obtain ⟨r, hr, rfl, hbr⟩ := hrel
                        have kr : ∀ j, wr.cell? ⟨kb, j, none⟩ = w.cell? ⟨kb, j, none⟩ := fun j => hbr.cell (p := ⟨kb, j, none⟩) hlt
                        have er := (hbr.cell (p := ⟨gO, q13, none⟩) hgO).trans hcO
                        by_cases hrm : r < m
                        · obtain ⟨g, rfl, hg, hcell⟩ := HIN.out r hrm
                          have d0 := (hbr.cell (p := ⟨g, r * 4, none⟩) hg).trans (hcell 0 (by omega))
                          have d1 := (hbr.cell (p := ⟨g, r * 4 + 1, none⟩) hg).trans (hcell 1 (by omega))
                          have d2 := (hbr.cell (p := ⟨g, r * 4 + 2, none⟩) hg).trans (hcell 2 (by omega))
                          have d3 := (hbr.cell (p := ⟨g, r * 4 + 3, none⟩) hg).trans (hcell 3 (by omega))
                          simp only [mkA, List.getElem?_cons_zero, List.getElem?_cons_succ] at d0 d1 d2 d3
                          clear hcell
                          go_wp2
                          go_roundw
                          case rel => exact ⟨r + 1, by omega, by go_num, hbr⟩
                          case measure => simp [intOf]; omega
                        · go_wp2
                          go_roundw
                          case rel => exact ⟨q13 + 1, by omega, by go_num, hbr⟩
                          case measure => simp [intOf]; omega
                    · go_wp2_with fail
                      go_wp2
                      go_ret
                      exact ⟨rfl, hb13⟩
end Go.Proofs.Ytcpldcojckhapaa
