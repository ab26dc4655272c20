/-
  The book of package latchlaw: 'ends': the lists that came last are marked, too; every list reads as its owner wrote it.
-/
import Derived.Test.YtcpldcojckhapaaBMI
import Derived.Test.YtcpldcojckhapaaBMF
import Derived.Test.YtcpldcojckhapaaBMA
import Derived.Test.YtcpldcojckhapaaBMT
import Derived.Test.YtcpldcojckhapaaBS
namespace Go.Proofs.Ytcpldcojckhapaa
open Go.RowKit

set_option maxRecDepth 100000 in
set_option maxRecDepth 100000 in
set_option maxHeartbeats 4000000 in
theorem ends_any (w : World) (B kb : Nat) (oI oF oA oT cI wI cF wF cA wA cT wT : Value) (nI nF nA nT : Nat) (pI pF pA pT : Nat → Prop) (xI : List Int) (xF : List (Int × Int × ByteArray)) (xA : List (Int × Int × Int × ByteArray)) (xT : List ByteArray)
    (hkb : w.heap[kb]? = some (.cells #[oI, oF, oA, oT, .bool false, cI, wI, cF, wF, cT, wT, cA, wA] 35 (0, 0)))
    (hLI : ListsIn w B 30 3 1 mkI oI nI pI) (hPI : ∀ g, pI g → cI.ownBlock ≠ some g) (hLF : ListsIn w B 31 40 3 mkF oF nF pF) (hPF : ∀ g, pF g → cF.ownBlock ≠ some g) (hLA : ListsIn w B 33 75 4 mkA oA nA pA) (hPA : ∀ g, pA g → cA.ownBlock ≠ some g) (hLT : ListsIn w B 32 9 1 mkT oT nT pT) (hPT : ∀ g, pT g → cT.ownBlock ≠ some g)
    (hCI : w.ownsRow B 3 1 cI xI.length (xI.flatMap encI)) (hWI : w.ownsRow B 3 1 wI xI.length (xI.flatMap encI)) (hCF : w.ownsRow B 40 3 cF xF.length (xF.flatMap encF)) (hWF : w.ownsRow B 40 3 wF xF.length (xF.flatMap encF)) (hCA : w.ownsRow B 75 4 cA xA.length (xA.flatMap encA)) (hWA : w.ownsRow B 75 4 wA xA.length (xA.flatMap encA)) (hCT : w.ownsRow B 9 1 cT xT.length (xT.flatMap encT)) (hWT : w.ownsRow B 9 1 wT xT.length (xT.flatMap encT))
    (hnI : nI % 4 = 0 ∧ nI ≤ 7000000) (hxI : xI.length ≤ 1000000) (hnF : nF % 4 = 0 ∧ nF ≤ 7000000) (hxF : xF.length ≤ 1000000) (hnA : nA % 4 = 0 ∧ nA ≤ 7000000) (hxA : xA.length ≤ 1000000) (hnT : nT % 4 = 0 ∧ nT ≤ 7000000) (hxT : xT.length ≤ 1000000) (hB : B ≤ w.heap.size) (hkB : B ≤ kb) :
    Calls Try.prog 17 #[.pointer (some ⟨kb, 0, none⟩)] w fun e w' => e = .returned (.bool true) ∧ Below B w w' := by
  go_enter Try.func17, Try.ntmps17
  have hBel0 : Below B w w := Below.refl _ _
  go_wp2_with fail
  refine (intMarked_any w B kb _ _ _ _ _ _ _ _ _ oI cI wI nI pI xI hkb hLI hPI hCI hWI hnI.1 (by omega) hxI (by omega)).mono ?_
  rintro e w1 ⟨rfl, vI, hk1, hMI, hF1, _⟩
  have hO1 := lists_block hLI
  have hCb1 := own_block hCI
  have hLF_1 := foot_lists hF1 hkb hO1 hCb1 hLF (by decide) (by decide) (by decide)
  have hCF_1 := foot_own hF1 hkb hO1 hCb1 hCF (by decide) (by decide) (by decide)
  have hWF_1 := foot_own hF1 hkb hO1 hCb1 hWF (by decide) (by decide) (by decide)
  have hLA_1 := foot_lists hF1 hkb hO1 hCb1 hLA (by decide) (by decide) (by decide)
  have hCA_1 := foot_own hF1 hkb hO1 hCb1 hCA (by decide) (by decide) (by decide)
  have hWA_1 := foot_own hF1 hkb hO1 hCb1 hWA (by decide) (by decide) (by decide)
  have hLT_1 := foot_lists hF1 hkb hO1 hCb1 hLT (by decide) (by decide) (by decide)
  have hCT_1 := foot_own hF1 hkb hO1 hCb1 hCT (by decide) (by decide) (by decide)
  have hWT_1 := foot_own hF1 hkb hO1 hCb1 hWT (by decide) (by decide) (by decide)
  have hs1 := hF1.size
  have hBel1 : Below B w w1 := hBel0.trans (hF1.below hkB (lists_base hLI) (fun g hg => (hCI.lt g hg).1) (by omega))
  go_wp2_with fail
  refine (frameMarked_any w1 B kb _ _ _ _ _ _ _ _ _ oF cF wF nF pF xF hk1 hLF_1 hPF hCF_1 hWF_1 hnF.1 (by omega) hxF (by omega)).mono ?_
  rintro e w2 ⟨rfl, vF, hk2, hMF, hF2, _⟩
  have hO2 := lists_block hLF_1
  have hCb2 := own_block hCF_1
  have hLI_2 := foot_lists hF2 hk1 hO2 hCb2 hMI (by decide) (by decide) (by decide)
  have hLA_2 := foot_lists hF2 hk1 hO2 hCb2 hLA_1 (by decide) (by decide) (by decide)
  have hCA_2 := foot_own hF2 hk1 hO2 hCb2 hCA_1 (by decide) (by decide) (by decide)
  have hWA_2 := foot_own hF2 hk1 hO2 hCb2 hWA_1 (by decide) (by decide) (by decide)
  have hLT_2 := foot_lists hF2 hk1 hO2 hCb2 hLT_1 (by decide) (by decide) (by decide)
  have hCT_2 := foot_own hF2 hk1 hO2 hCb2 hCT_1 (by decide) (by decide) (by decide)
  have hWT_2 := foot_own hF2 hk1 hO2 hCb2 hWT_1 (by decide) (by decide) (by decide)
  have hs2 := hF2.size
  have hBel2 : Below B w w2 := hBel1.trans (hF2.below hkB (lists_base hLF_1) (fun g hg => (hCF_1.lt g hg).1) (by omega))
  go_wp2_with fail
  refine (textMarked_any w2 B kb _ _ _ _ _ _ _ _ _ oT cT wT nT pT xT hk2 hLT_2 hPT hCT_2 hWT_2 hnT.1 (by omega) hxT (by omega)).mono ?_
  rintro e w3 ⟨rfl, vT, hk3, hMT, hF3, _⟩
  have hO3 := lists_block hLT_2
  have hCb3 := own_block hCT_2
  have hLI_3 := foot_lists hF3 hk2 hO3 hCb3 hLI_2 (by decide) (by decide) (by decide)
  have hLF_3 := foot_lists hF3 hk2 hO3 hCb3 hMF (by decide) (by decide) (by decide)
  have hLA_3 := foot_lists hF3 hk2 hO3 hCb3 hLA_2 (by decide) (by decide) (by decide)
  have hCA_3 := foot_own hF3 hk2 hO3 hCb3 hCA_2 (by decide) (by decide) (by decide)
  have hWA_3 := foot_own hF3 hk2 hO3 hCb3 hWA_2 (by decide) (by decide) (by decide)
  have hs3 := hF3.size
  have hBel3 : Below B w w3 := hBel2.trans (hF3.below hkB (lists_base hLT_2) (fun g hg => (hCT_2.lt g hg).1) (by omega))
  go_wp2_with fail
  refine (actMarked_any w3 B kb _ _ _ _ _ _ _ _ _ oA cA wA nA pA xA hk3 hLA_3 hPA hCA_3 hWA_3 hnA.1 (by omega) hxA (by omega)).mono ?_
  rintro e w4 ⟨rfl, vA, hk4, hMA, hF4, _⟩
  have hO4 := lists_block hLA_3
  have hCb4 := own_block hCA_3
  have hLI_4 := foot_lists hF4 hk3 hO4 hCb4 hLI_3 (by decide) (by decide) (by decide)
  have hLF_4 := foot_lists hF4 hk3 hO4 hCb4 hLF_3 (by decide) (by decide) (by decide)
  have hLT_4 := foot_lists hF4 hk3 hO4 hCb4 hMT (by decide) (by decide) (by decide)
  have hs4 := hF4.size
  have hBel4 : Below B w w4 := hBel3.trans (hF4.below hkB (lists_base hLA_3) (fun g hg => (hCA_3.lt g hg).1) (by omega))
  go_wp2_with fail
  refine (still_any w4 B kb vI vF vA vT _ _ _ _ _ _ _ _ (nI + 4) (nF + 4) (nA + 4) (nT + 4) [] [] [] [] hk4 hLI_4.lists hLF_4.lists hMA.lists hLT_4.lists (World.ownsRow_nil _ _ _ _) (World.ownsRow_nil _ _ _ _) (World.ownsRow_nil _ _ _ _) (World.ownsRow_nil _ _ _ _) (World.ownsRow_nil _ _ _ _) (World.ownsRow_nil _ _ _ _) (World.ownsRow_nil _ _ _ _) (World.ownsRow_nil _ _ _ _) (by omega) (by decide) (by omega) (by decide) (by omega) (by decide) (by omega) (by decide)).mono ?_
  rintro e w5 ⟨rfl, hb5⟩
  go_wp2
  go_ret
  exact ⟨rfl, hBel4.trans (hb5.mono (by omega))⟩
end Go.Proofs.Ytcpldcojckhapaa
