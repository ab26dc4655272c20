/-
  The book of package latchlaw: 'still' answers true where every list reads as its owner wrote it.
-/
import Derived.Test.YtcpldcojckhapaaBV
namespace Go.Proofs.Ytcpldcojckhapaa
open Go.RowKit

theorem conv4_at (W : World) (g : Nat) (x y z q : Int) (h0 : W.cell? ⟨g, 0, none⟩ = some (.int .u8 x)) (h1 : W.cell? ⟨g, 1, none⟩ = some (.int .u8 y)) (h2 : W.cell? ⟨g, 2, none⟩ = some (.int .u8 z)) (h3 : W.cell? ⟨g, 3, none⟩ = some (.int .u8 q)) :
    (convert 45 9 (.slice (some ⟨g, 0, none⟩) 4 4)).run Try.prog W = .ok (.string ⟨#[UInt8.ofNat x.toNat, UInt8.ofNat y.toNat, UInt8.ofNat z.toNat, UInt8.ofNat q.toNat]⟩) W := by
  rw [run_convert_bytes_string _ 45 9 5 _ 4 4 Try.underlying45 Try.underlying5 Try.underlying9, run_bytesToString _ _ 4 4 [x, y, z, q]]
  · rfl
  · have h := run_loadCells_list (P := Try.prog) W ⟨g, 0, none⟩ [.int .u8 x, .int .u8 y, .int .u8 z, .int .u8 q] (fun j v hj => by
      match j, hj with
      | 0, hj => simp at hj; subst hj; simpa [Addr.add] using h0
      | 1, hj => simp at hj; subst hj; simpa [Addr.add] using h1
      | 2, hj => simp at hj; subst hj; simpa [Addr.add] using h2
      | 3, hj => simp at hj; subst hj; simpa [Addr.add] using h3)
    simpa using h
set_option maxRecDepth 100000 in
set_option maxHeartbeats 400000 in
theorem wordL_any (n : Nat) (w : World) (h4 : n < 16000000) :
    Calls Try.prog 39 #[.int .i64 (n : Nat)] w fun e w' => e = .returned (.string (wordB n)) ∧ Below w.heap.size w w' := by
  have c4 : ∀ (W : World) (g : Nat), W.cell? ⟨g, 0, none⟩ = some (.int .u8 ((n : Int) % 256)) → W.cell? ⟨g, 1, none⟩ = some (.int .u8 ((n : Int) / 256 % 256)) → W.cell? ⟨g, 2, none⟩ = some (.int .u8 ((n : Int) / 65536)) → W.cell? ⟨g, 3, none⟩ = some (.int .u8 109) →
      (convert 45 9 (.slice (some ⟨g, 0, none⟩) 4 4)).run Try.prog W = .ok (.string (wordB n)) W := fun W g a b c d => by
    rw [conv4_at W g _ _ _ _ a b c d]
    unfold wordB
    rw [show ((n : Int) % 256).toNat = n % 256 by omega, show ((n : Int) / 256 % 256).toNat = n / 256 % 256 by omega, show ((n : Int) / 65536).toNat = n / 65536 % 256 by omega]
    rfl
  go_enter Try.func39, Try.ntmps39
  go_wp2
  go_ret
  exact ⟨rfl, (Below.refl _ _).alloc (Nat.le_refl _) _⟩
theorem enterWord (x : Value) (w : World) : (callFunc 39 #[x]).run Try.prog w = .ok (.enter 39 #[x]) w := by kernel_rfl
theorem wordL_step (x : Int) (n : Nat) (hx : x = n) (w : World) (h4 : n < 16000000) :
    Calls Try.prog 39 #[.int .i64 x] w fun e w' => ∃ v, e = .returned v ∧ (v = .string (wordB n) ∧ Below w.heap.size w w') := by
  subst hx
  refine (wordL_any n w h4).mono ?_
  rintro e w' ⟨rfl, hb⟩
  exact ⟨_, rfl, rfl, hb⟩

set_option maxRecDepth 100000 in
set_option maxRecDepth 100000 in
set_option maxHeartbeats 16000000 in
theorem still_any (w : World) (B kb : Nat) (oI oF oA oT cI wI cF wF cA wA cT wT : Value) (nI nF nA nT : Nat) (xI : List Int) (xF : List (Int × Int × ByteArray)) (xA : List (Int × Int × Int × ByteArray)) (xT : List ByteArray)
    (hkb : w.heap[kb]? = some (.cells #[oI, oF, oA, oT, .bool false, cI, wI, cF, wF, cT, wT, cA, wA] 35 (0, 0)))
    (hLI : Lists w B 30 3 1 mkI oI nI) (hLF : Lists w B 31 40 3 mkF oF nF) (hLA : Lists w B 33 75 4 mkA oA nA) (hLT : Lists w B 32 9 1 mkT oT nT)
    (hCI : w.ownsRow B 3 1 cI xI.length (xI.flatMap encI)) (hWI : w.ownsRow B 3 1 wI xI.length (xI.flatMap encI)) (hCF : w.ownsRow B 40 3 cF xF.length (xF.flatMap encF)) (hWF : w.ownsRow B 40 3 wF xF.length (xF.flatMap encF)) (hCA : w.ownsRow B 75 4 cA xA.length (xA.flatMap encA)) (hWA : w.ownsRow B 75 4 wA xA.length (xA.flatMap encA)) (hCT : w.ownsRow B 9 1 cT xT.length (xT.flatMap encT)) (hWT : w.ownsRow B 9 1 wT xT.length (xT.flatMap encT))
    (hnI : nI ≤ 8000000) (hxI : xI.length ≤ 2000000) (hnF : nF ≤ 8000000) (hxF : xF.length ≤ 2000000) (hnA : nA ≤ 8000000) (hxA : xA.length ≤ 2000000) (hnT : nT ≤ 8000000) (hxT : xT.length ≤ 2000000) :
    Calls Try.prog 14 #[.pointer (some ⟨kb, 0, none⟩)] w fun e w' => e = .returned (.bool true) ∧ Below w.heap.size w w' := by
  have hlt := lt_of_block hkb
  have b0 : w.cell? ⟨kb, 0, none⟩ = some (oI) := by rw [cell_of_row w kb 0 _ 35 (0, 0) hkb]; rfl
  have b1 : w.cell? ⟨kb, 1, none⟩ = some (oF) := by rw [cell_of_row w kb 1 _ 35 (0, 0) hkb]; rfl
  have b2 : w.cell? ⟨kb, 2, none⟩ = some (oA) := by rw [cell_of_row w kb 2 _ 35 (0, 0) hkb]; rfl
  have b3 : w.cell? ⟨kb, 3, none⟩ = some (oT) := by rw [cell_of_row w kb 3 _ 35 (0, 0) hkb]; rfl
  have b4 : w.cell? ⟨kb, 4, none⟩ = some (.bool false) := by rw [cell_of_row w kb 4 _ 35 (0, 0) hkb]; rfl
  have b5 : w.cell? ⟨kb, 5, none⟩ = some (cI) := by rw [cell_of_row w kb 5 _ 35 (0, 0) hkb]; rfl
  have b6 : w.cell? ⟨kb, 6, none⟩ = some (wI) := by rw [cell_of_row w kb 6 _ 35 (0, 0) hkb]; rfl
  have b7 : w.cell? ⟨kb, 7, none⟩ = some (cF) := by rw [cell_of_row w kb 7 _ 35 (0, 0) hkb]; rfl
  have b8 : w.cell? ⟨kb, 8, none⟩ = some (wF) := by rw [cell_of_row w kb 8 _ 35 (0, 0) hkb]; rfl
  have b9 : w.cell? ⟨kb, 9, none⟩ = some (cT) := by rw [cell_of_row w kb 9 _ 35 (0, 0) hkb]; rfl
  have b10 : w.cell? ⟨kb, 10, none⟩ = some (wT) := by rw [cell_of_row w kb 10 _ 35 (0, 0) hkb]; rfl
  have b11 : w.cell? ⟨kb, 11, none⟩ = some (cA) := by rw [cell_of_row w kb 11 _ 35 (0, 0) hkb]; rfl
  have b12 : w.cell? ⟨kb, 12, none⟩ = some (wA) := by rw [cell_of_row w kb 12 _ 35 (0, 0) hkb]; rfl
  obtain ⟨aOI, dOI, rfl, vLI⟩ := hLI.view (fun _ => rfl)
  obtain ⟨aCI, dCI, rfl, vCI⟩ := own_view hCI
  obtain ⟨aWI, dWI, rfl, vWI⟩ := own_view hWI
  obtain ⟨mI, eI⟩ : ∃ m, m = xI.length := ⟨_, rfl⟩
  rw [← eI] at b5 b6 vCI vWI hxI
  have HEI : Hid (mI = xI.length) := eI
  have HLI := hideF vLI
  have HCI := hideF vCI
  have HWI := hideF vWI
  clear vLI vCI vWI hLI hCI hWI eI
  obtain ⟨aOF, dOF, rfl, vLF⟩ := hLF.view (fun _ => rfl)
  obtain ⟨aCF, dCF, rfl, vCF⟩ := own_view hCF
  obtain ⟨aWF, dWF, rfl, vWF⟩ := own_view hWF
  obtain ⟨mF, eF⟩ : ∃ m, m = xF.length := ⟨_, rfl⟩
  rw [← eF] at b7 b8 vCF vWF hxF
  have HEF : Hid (mF = xF.length) := eF
  have HLF := hideF vLF
  have HCF := hideF vCF
  have HWF := hideF vWF
  clear vLF vCF vWF hLF hCF hWF eF
  obtain ⟨aOA, dOA, rfl, vLA⟩ := hLA.view (fun _ => rfl)
  obtain ⟨aCA, dCA, rfl, vCA⟩ := own_view hCA
  obtain ⟨aWA, dWA, rfl, vWA⟩ := own_view hWA
  obtain ⟨mA, eA⟩ : ∃ m, m = xA.length := ⟨_, rfl⟩
  rw [← eA] at b11 b12 vCA vWA hxA
  have HEA : Hid (mA = xA.length) := eA
  have HLA := hideF vLA
  have HCA := hideF vCA
  have HWA := hideF vWA
  clear vLA vCA vWA hLA hCA hWA eA
  obtain ⟨aOT, dOT, rfl, vLT⟩ := hLT.view (fun _ => rfl)
  obtain ⟨aCT, dCT, rfl, vCT⟩ := own_view hCT
  obtain ⟨aWT, dWT, rfl, vWT⟩ := own_view hWT
  obtain ⟨mT, eT⟩ : ∃ m, m = xT.length := ⟨_, rfl⟩
  rw [← eT] at b9 b10 vCT vWT hxT
  have HET : Hid (mT = xT.length) := eT
  have HLT := hideF vLT
  have HCT := hideF vCT
  have HWT := hideF vWT
  clear vLT vCT vWT hLT hCT hWT eT
  clear hkb
  go_enter Try.func14, Try.ntmps14
  go_wp2_with fail
  go_loopw [3] (fun i wr => ∃ q : Nat, q ≤ mI ∧ i = .int .i64 (q : Nat) ∧ Below w.heap.size w wr) (fun i _ => mI - (intOf i).toNat)
  case atStart => exact ⟨0, Nat.zero_le _, rfl, Below.refl _ _⟩
  case round =>
    obtain ⟨q3, hq3, rfl, hb3⟩ := hrel
    have kc3 : ∀ j, wr.cell? ⟨kb, j, none⟩ = w.cell? ⟨kb, j, none⟩ := fun j => hb3.cell (p := ⟨kb, j, none⟩) hlt
    by_cases hl3 : q3 < mI
    · obtain ⟨g1, rfl, hg1, hc1⟩ := HCI.out q3 hl3
      obtain ⟨g2, rfl, hg2, hc2⟩ := HWI.out q3 hl3
      obtain ⟨x, hf0⟩ := atI xI q3 (by rw [← HEI.out]; exact hl3)
      have d10 := ((hb3.cell (p := ⟨g1, q3, none⟩) hg1).trans (hc1 (q3) (by omega))).trans hf0
      have d20 := ((hb3.cell (p := ⟨g2, q3, none⟩) hg2).trans (hc2 (q3) (by omega))).trans hf0
      clear hc1 hc2 hf0
      go_wp2_with fail
      go_quiet (fail)
      go_wp2
      go_roundw
      case rel => exact ⟨q3 + 1, by omega, by go_num, below_drewN hb3 _⟩
      case measure => simp [intOf]; omega
    · go_wp2_with fail
      go_loopw [4] (fun i wr => ∃ q : Nat, q ≤ mF ∧ i = .int .i64 (q : Nat) ∧ Below w.heap.size w wr) (fun i _ => mF - (intOf i).toNat)
      case atStart => exact ⟨0, Nat.zero_le _, rfl, hb3⟩
      case round =>
        obtain ⟨q4, hq4, rfl, hb4⟩ := hrel
        have kc4 : ∀ j, wr.cell? ⟨kb, j, none⟩ = w.cell? ⟨kb, j, none⟩ := fun j => hb4.cell (p := ⟨kb, j, none⟩) hlt
        by_cases hl4 : q4 < mF
        · obtain ⟨g1, rfl, hg1, hc1⟩ := HCF.out q4 hl4
          obtain ⟨g2, rfl, hg2, hc2⟩ := HWF.out q4 hl4
          obtain ⟨x, hf0, hf1, hf2⟩ := atF xF q4 (by rw [← HEF.out]; exact hl4)
          have d10 := ((hb4.cell (p := ⟨g1, q4 * 3, none⟩) hg1).trans (hc1 (q4 * 3) (by omega))).trans hf0
          have d11 := ((hb4.cell (p := ⟨g1, q4 * 3 + 1, none⟩) hg1).trans (hc1 (q4 * 3 + 1) (by omega))).trans hf1
          have d12 := ((hb4.cell (p := ⟨g1, q4 * 3 + 2, none⟩) hg1).trans (hc1 (q4 * 3 + 2) (by omega))).trans hf2
          have d20 := ((hb4.cell (p := ⟨g2, q4 * 3, none⟩) hg2).trans (hc2 (q4 * 3) (by omega))).trans hf0
          have d21 := ((hb4.cell (p := ⟨g2, q4 * 3 + 1, none⟩) hg2).trans (hc2 (q4 * 3 + 1) (by omega))).trans hf1
          have d22 := ((hb4.cell (p := ⟨g2, q4 * 3 + 2, none⟩) hg2).trans (hc2 (q4 * 3 + 2) (by omega))).trans hf2
          clear hc1 hc2 hf0 hf1 hf2
          go_wp2_with fail
          go_quiet (fail)
          go_wp2
          go_roundw
          case rel => exact ⟨q4 + 1, by omega, by go_num, below_drewN hb4 _⟩
          case measure => simp [intOf]; omega
        · go_wp2_with fail
          go_loopw [5] (fun i wr => ∃ q : Nat, q ≤ mT ∧ i = .int .i64 (q : Nat) ∧ Below w.heap.size w wr) (fun i _ => mT - (intOf i).toNat)
          case atStart => exact ⟨0, Nat.zero_le _, rfl, hb4⟩
          case round =>
            obtain ⟨q5, hq5, rfl, hb5⟩ := hrel
            have kc5 : ∀ j, wr.cell? ⟨kb, j, none⟩ = w.cell? ⟨kb, j, none⟩ := fun j => hb5.cell (p := ⟨kb, j, none⟩) hlt
            by_cases hl5 : q5 < mT
            · obtain ⟨g1, rfl, hg1, hc1⟩ := HCT.out q5 hl5
              obtain ⟨g2, rfl, hg2, hc2⟩ := HWT.out q5 hl5
              obtain ⟨x, hf0⟩ := atT xT q5 (by rw [← HET.out]; exact hl5)
              have d10 := ((hb5.cell (p := ⟨g1, q5, none⟩) hg1).trans (hc1 (q5) (by omega))).trans hf0
              have d20 := ((hb5.cell (p := ⟨g2, q5, none⟩) hg2).trans (hc2 (q5) (by omega))).trans hf0
              clear hc1 hc2 hf0
              go_wp2_with fail
              go_quiet (fail)
              go_wp2
              go_roundw
              case rel => exact ⟨q5 + 1, by omega, by go_num, below_drewN hb5 _⟩
              case measure => simp [intOf]; omega
            · go_wp2_with fail
              go_loopw [6] (fun i wr => ∃ q : Nat, q ≤ mA ∧ i = .int .i64 (q : Nat) ∧ Below w.heap.size w wr) (fun i _ => mA - (intOf i).toNat)
              case atStart => exact ⟨0, Nat.zero_le _, rfl, hb5⟩
              case round =>
                obtain ⟨q6, hq6, rfl, hb6⟩ := hrel
                have kc6 : ∀ j, wr.cell? ⟨kb, j, none⟩ = w.cell? ⟨kb, j, none⟩ := fun j => hb6.cell (p := ⟨kb, j, none⟩) hlt
                by_cases hl6 : q6 < mA
                · obtain ⟨g1, rfl, hg1, hc1⟩ := HCA.out q6 hl6
                  obtain ⟨g2, rfl, hg2, hc2⟩ := HWA.out q6 hl6
                  obtain ⟨x, hf0, hf1, hf2, hf3⟩ := atA xA q6 (by rw [← HEA.out]; exact hl6)
                  have d10 := ((hb6.cell (p := ⟨g1, q6 * 4, none⟩) hg1).trans (hc1 (q6 * 4) (by omega))).trans hf0
                  have d11 := ((hb6.cell (p := ⟨g1, q6 * 4 + 1, none⟩) hg1).trans (hc1 (q6 * 4 + 1) (by omega))).trans hf1
                  have d12 := ((hb6.cell (p := ⟨g1, q6 * 4 + 2, none⟩) hg1).trans (hc1 (q6 * 4 + 2) (by omega))).trans hf2
                  have d13 := ((hb6.cell (p := ⟨g1, q6 * 4 + 3, none⟩) hg1).trans (hc1 (q6 * 4 + 3) (by omega))).trans hf3
                  have d20 := ((hb6.cell (p := ⟨g2, q6 * 4, none⟩) hg2).trans (hc2 (q6 * 4) (by omega))).trans hf0
                  have d21 := ((hb6.cell (p := ⟨g2, q6 * 4 + 1, none⟩) hg2).trans (hc2 (q6 * 4 + 1) (by omega))).trans hf1
                  have d22 := ((hb6.cell (p := ⟨g2, q6 * 4 + 2, none⟩) hg2).trans (hc2 (q6 * 4 + 2) (by omega))).trans hf2
                  have d23 := ((hb6.cell (p := ⟨g2, q6 * 4 + 3, none⟩) hg2).trans (hc2 (q6 * 4 + 3) (by omega))).trans hf3
                  clear hc1 hc2 hf0 hf1 hf2 hf3
                  go_wp2_with fail
                  go_quiet (fail)
                  go_wp2
                  go_roundw
                  case rel => exact ⟨q6 + 1, by omega, by go_num, below_drewN hb6 _⟩
                  case measure => simp [intOf]; omega
                · go_wp2_with fail
                  go_loopw [7] (fun i wr => ∃ q : Nat, q ≤ nI ∧ i = .int .i64 (q : Nat) ∧ Below w.heap.size w wr) (fun i _ => nI - (intOf i).toNat)
                  case atStart => exact ⟨0, Nat.zero_le _, rfl, hb6⟩
                  case round =>
                    obtain ⟨q7, hq7, rfl, hb7⟩ := hrel
                    have kc7 : ∀ j, wr.cell? ⟨kb, j, none⟩ = w.cell? ⟨kb, j, none⟩ := fun j => hb7.cell (p := ⟨kb, j, none⟩) hlt
                    by_cases hl7 : q7 < nI
                    · obtain ⟨gO, rfl, hgO, a', m, c', hcO, hm, hin⟩ := HLI.out q7 hl7
                      have e7 := (hb7.cell (p := ⟨gO, q7, none⟩) hgO).trans hcO
                      have HIN := hideF hin
                      clear hin
                      go_wp2_with fail
                      go_loopw [8] (fun i wr => ∃ r : Nat, r ≤ m ∧ i = .int .i64 (r : Nat) ∧ Below w.heap.size w wr) (fun i _ => m - (intOf i).toNat)
                      case atStart => exact ⟨0, Nat.zero_le _, rfl, hb7⟩
                      case round =>
                        obtain ⟨r, hr, rfl, hbr⟩ := hrel
                        have kr : ∀ j, wr.cell? ⟨kb, j, none⟩ = w.cell? ⟨kb, j, none⟩ := fun j => hbr.cell (p := ⟨kb, j, none⟩) hlt
                        have er := (hbr.cell (p := ⟨gO, q7, none⟩) hgO).trans hcO
                        by_cases hrm : r < m
                        · obtain ⟨g, rfl, hg, hcell⟩ := HIN.out r hrm
                          simp only [Nat.mul_one] at hcell
                          have d0 := (hbr.cell (p := ⟨g, r, none⟩) hg).trans (hcell 0 (by omega))
                          simp only [mkI, List.getElem?_cons_zero] at d0
                          clear hcell
                          go_wp2
                          go_roundw
                          case rel => exact ⟨r + 1, by omega, by go_num, hbr⟩
                          case measure => simp [intOf]; omega
                        · go_wp2
                          go_roundw
                          case rel => exact ⟨q7 + 1, by omega, by go_num, hbr⟩
                          case measure => simp [intOf]; omega
                    · go_wp2_with fail
                      go_loopw [9] (fun i wr => ∃ q : Nat, q ≤ nT ∧ i = .int .i64 (q : Nat) ∧ Below w.heap.size w wr) (fun i _ => nT - (intOf i).toNat)
                      case atStart => exact ⟨0, Nat.zero_le _, rfl, hb7⟩
                      case round =>
                        obtain ⟨q9, hq9, rfl, hb9⟩ := hrel
                        have kc9 : ∀ j, wr.cell? ⟨kb, j, none⟩ = w.cell? ⟨kb, j, none⟩ := fun j => hb9.cell (p := ⟨kb, j, none⟩) hlt
                        by_cases hl9 : q9 < nT
                        · obtain ⟨gO, rfl, hgO, a', m, c', hcO, hm, hin⟩ := HLT.out q9 hl9
                          have e9 := (hb9.cell (p := ⟨gO, q9, none⟩) hgO).trans hcO
                          have HIN := hideF hin
                          clear hin
                          go_wp2_with fail
                          go_loopw [10] (fun i wr => ∃ r : Nat, r ≤ m ∧ i = .int .i64 (r : Nat) ∧ Below w.heap.size w wr) (fun i _ => m - (intOf i).toNat)
                          case atStart => exact ⟨0, Nat.zero_le _, rfl, hb9⟩
                          case round =>
                            obtain ⟨r, hr, rfl, hbr⟩ := hrel
                            have kr : ∀ j, wr.cell? ⟨kb, j, none⟩ = w.cell? ⟨kb, j, none⟩ := fun j => hbr.cell (p := ⟨kb, j, none⟩) hlt
                            have er := (hbr.cell (p := ⟨gO, q9, none⟩) hgO).trans hcO
                            by_cases hrm : r < m
                            · obtain ⟨g, rfl, hg, hcell⟩ := HIN.out r hrm
                              simp only [Nat.mul_one] at hcell
                              have d0 := (hbr.cell (p := ⟨g, r, none⟩) hg).trans (hcell 0 (by omega))
                              simp only [mkT, List.getElem?_cons_zero] at d0
                              clear hcell
                              have h4 : q9 / 4 * 4 < 16000000 := by omega
                              have wq : IntKind.i64.wrap ((q9 : Int) / 4 * 4) = (q9 : Int) / 4 * 4 := by rw [IntKind.wrap_i64]; omega
                              have wq2 : IntKind.i64.wrap ((q9 : Int) / 4) = (q9 : Int) / 4 := by rw [IntKind.wrap_i64]; omega
                              have hw0 : w.cell? ⟨g, r, none⟩ = some (.string (wordB (q9 / 4 * 4))) := (hbr.cell (p := ⟨g, r, none⟩) hg).symm.trans d0
                              go_wp2_with fail
                              go_region_law (refine step_call rfl 39 #[.tmp 184] #[3] rfl #[.int .i64 ((q9 : Int) / 4 * 4)] (by simp [Act.eval, Act.put]) (enterWord _ _) _ (wordL_step _ (q9 / 4 * 4) (by omega) _ h4) ?_; rintro v w8 ⟨rfl, hb8⟩; have hb99 : Below w.heap.size w w8 := (bel_then (by first | exact hbr.drew | exact below_drewN hbr _ | exact hbr) hb8); have k8 : ∀ j, w8.cell? ⟨kb, j, none⟩ = w.cell? ⟨kb, j, none⟩ := (fun j => hb99.cell (p := ⟨kb, j, none⟩) hlt); have e8 := (hb99.cell (p := ⟨gO, q9, none⟩) hgO).trans hcO; have d8 := (hb99.cell (p := ⟨g, r, none⟩) hg).trans hw0)
                              all_goals go_wp2
                              all_goals
                                go_roundw
                                case rel => exact ⟨r + 1, by omega, by go_num, hb99⟩
                                case measure => simp [intOf]; omega
                            · go_wp2
                              go_roundw
                              case rel => exact ⟨q9 + 1, by omega, by go_num, hbr⟩
                              case measure => simp [intOf]; omega
                        · go_wp2_with fail
                          go_loopw [11] (fun i wr => ∃ q : Nat, q ≤ nF ∧ i = .int .i64 (q : Nat) ∧ Below w.heap.size w wr) (fun i _ => nF - (intOf i).toNat)
                          case atStart => exact ⟨0, Nat.zero_le _, rfl, hb9⟩
                          case round =>
                            obtain ⟨q11, hq11, rfl, hb11⟩ := hrel
                            have kc11 : ∀ j, wr.cell? ⟨kb, j, none⟩ = w.cell? ⟨kb, j, none⟩ := fun j => hb11.cell (p := ⟨kb, j, none⟩) hlt
                            by_cases hl11 : q11 < nF
                            · obtain ⟨gO, rfl, hgO, a', m, c', hcO, hm, hin⟩ := HLF.out q11 hl11
                              have e11 := (hb11.cell (p := ⟨gO, q11, none⟩) hgO).trans hcO
                              have HIN := hideF hin
                              clear hin
                              go_wp2_with fail
                              go_loopw [12] (fun i wr => ∃ r : Nat, r ≤ m ∧ i = .int .i64 (r : Nat) ∧ Below w.heap.size w wr) (fun i _ => m - (intOf i).toNat)
                              case atStart => exact ⟨0, Nat.zero_le _, rfl, hb11⟩
                              case round =>
                                obtain ⟨r, hr, rfl, hbr⟩ := hrel
                                have kr : ∀ j, wr.cell? ⟨kb, j, none⟩ = w.cell? ⟨kb, j, none⟩ := fun j => hbr.cell (p := ⟨kb, j, none⟩) hlt
                                have er := (hbr.cell (p := ⟨gO, q11, none⟩) hgO).trans hcO
                                by_cases hrm : r < m
                                · obtain ⟨g, rfl, hg, hcell⟩ := HIN.out r hrm
                                  have d0 := (hbr.cell (p := ⟨g, r * 3, none⟩) hg).trans (hcell 0 (by omega))
                                  have d1 := (hbr.cell (p := ⟨g, r * 3 + 1, none⟩) hg).trans (hcell 1 (by omega))
                                  have d2 := (hbr.cell (p := ⟨g, r * 3 + 2, none⟩) hg).trans (hcell 2 (by omega))
                                  simp only [mkF, List.getElem?_cons_zero, List.getElem?_cons_succ] at d0 d1 d2
                                  clear hcell
                                  go_wp2
                                  go_roundw
                                  case rel => exact ⟨r + 1, by omega, by go_num, hbr⟩
                                  case measure => simp [intOf]; omega
                                · go_wp2
                                  go_roundw
                                  case rel => exact ⟨q11 + 1, by omega, by go_num, hbr⟩
                                  case measure => simp [intOf]; omega
                            · go_wp2_with fail
                              go_loopw [13] (fun i wr => ∃ q : Nat, q ≤ nA ∧ i = .int .i64 (q : Nat) ∧ Below w.heap.size w wr) (fun i _ => nA - (intOf i).toNat)
                              case atStart => exact ⟨0, Nat.zero_le _, rfl, hb11⟩
                              case round =>
                                obtain ⟨q13, hq13, rfl, hb13⟩ := hrel
                                have kc13 : ∀ j, wr.cell? ⟨kb, j, none⟩ = w.cell? ⟨kb, j, none⟩ := fun j => hb13.cell (p := ⟨kb, j, none⟩) hlt
                                by_cases hl13 : q13 < nA
                                · obtain ⟨gO, rfl, hgO, a', m, c', hcO, hm, hin⟩ := HLA.out q13 hl13
                                  have e13 := (hb13.cell (p := ⟨gO, q13, none⟩) hgO).trans hcO
                                  have HIN := hideF hin
                                  clear hin
                                  go_wp2_with fail
                                  go_loopw [14] (fun i wr => ∃ r : Nat, r ≤ m ∧ i = .int .i64 (r : Nat) ∧ Below w.heap.size w wr) (fun i _ => m - (intOf i).toNat)
                                  case atStart => exact ⟨0, Nat.zero_le _, rfl, hb13⟩
                                  case round =>
                                    obtain ⟨r, hr, rfl, hbr⟩ := hrel
                                    have kr : ∀ j, wr.cell? ⟨kb, j, none⟩ = w.cell? ⟨kb, j, none⟩ := fun j => hbr.cell (p := ⟨kb, j, none⟩) hlt
                                    have er := (hbr.cell (p := ⟨gO, q13, none⟩) hgO).trans hcO
                                    by_cases hrm : r < m
                                    · obtain ⟨g, rfl, hg, hcell⟩ := HIN.out r hrm
                                      have d0 := (hbr.cell (p := ⟨g, r * 4, none⟩) hg).trans (hcell 0 (by omega))
                                      have d1 := (hbr.cell (p := ⟨g, r * 4 + 1, none⟩) hg).trans (hcell 1 (by omega))
                                      have d2 := (hbr.cell (p := ⟨g, r * 4 + 2, none⟩) hg).trans (hcell 2 (by omega))
                                      have d3 := (hbr.cell (p := ⟨g, r * 4 + 3, none⟩) hg).trans (hcell 3 (by omega))
                                      simp only [mkA, List.getElem?_cons_zero, List.getElem?_cons_succ] at d0 d1 d2 d3
                                      clear hcell
                                      go_wp2
                                      go_roundw
                                      case rel => exact ⟨r + 1, by omega, by go_num, hbr⟩
                                      case measure => simp [intOf]; omega
                                    · go_wp2
                                      go_roundw
                                      case rel => exact ⟨q13 + 1, by omega, by go_num, hbr⟩
                                      case measure => simp [intOf]; omega
                                · go_wp2_with fail
                                  go_wp2
                                  go_ret
                                  exact ⟨rfl, hb13⟩
end Go.Proofs.Ytcpldcojckhapaa
