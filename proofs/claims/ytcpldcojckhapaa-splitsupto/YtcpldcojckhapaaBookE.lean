/-
  The book of package latchlaw: 'ends': the lists that came last are marked, too; every list reads as its owner wrote it.
-/
import Derived.Test.YtcpldcojckhapaaBookG
import Derived.Test.YtcpldcojckhapaaBookI
import Derived.Test.YtcpldcojckhapaaBookT
import Derived.Test.YtcpldcojckhapaaBookA
set_option maxRecDepth 100000
namespace Go.Proofs.Ytcpldcojckhapaa
open Go.RowKit

theorem foot_block {w w' : World} {kb : Nat} {vO vC : Value} {ck : Array Value} {tO tC : TypeId} (hF : Foot w w' kb vO vC) (hk : w.heap[kb]? = some (Obj.cells ck 35 (0, 0)))
    (hO : ∀ g, vO.ownBlock = some g → ∃ cur, w.heap[g]? = some (Obj.cells cur tO (0, 0))) (hC : ∀ g, vC.ownBlock = some g → ∃ cur, w.heap[g]? = some (Obj.cells cur tC (0, 0)))
    (g : Nat) (cur : Array Value) (t : TypeId) (hc : w.heap[g]? = some (Obj.cells cur t (0, 0))) (h1 : t ≠ 35) (h2 : t ≠ tO) (h3 : t ≠ tC) : w'.heap[g]? = w.heap[g]? := by
  refine hF.block g (lt_of_block hc) (fun ee => ?_) (fun ee => ?_) (fun ee => ?_)
  · rw [ee, hk] at hc
    simp at hc
    exact h1 hc.2.symm
  · obtain ⟨c, h⟩ := hO g ee
    rw [h] at hc
    simp at hc
    exact h2 hc.2.symm
  · obtain ⟨c, h⟩ := hC g ee
    rw [h] at hc
    simp at hc
    exact h3 hc.2.symm
theorem foot_lists {w w' : World} {kb : Nat} {vO vC : Value} {ck : Array Value} {tO tC : TypeId} (hF : Foot w w' kb vO vC) (hk : w.heap[kb]? = some (Obj.cells ck 35 (0, 0)))
    (hO : ∀ g, vO.ownBlock = some g → ∃ cur, w.heap[g]? = some (Obj.cells cur tO (0, 0))) (hC : ∀ g, vC.ownBlock = some g → ∃ cur, w.heap[g]? = some (Obj.cells cur tC (0, 0)))
    {B : Nat} {eO e : TypeId} {size : Nat} {mk : Nat → List Value} {v : Value} {N : Nat} {Q : Nat → Prop} (h : ListsIn w B eO e size mk v N Q) (h1 : eO ≠ 35 ∧ e ≠ 35) (h2 : eO ≠ tO ∧ e ≠ tO) (h3 : eO ≠ tC ∧ e ≠ tC) : ListsIn w' B eO e size mk v N Q :=
  h.carry (fun k cur t hc _ ht => by
    rcases ht with r | r
    · subst r; exact foot_block hF hk hO hC k cur t hc h1.1 h2.1 h3.1
    · subst r; exact foot_block hF hk hO hC k cur t hc h1.2 h2.2 h3.2)
theorem foot_own {w w' : World} {kb : Nat} {vO vC : Value} {ck : Array Value} {tO tC : TypeId} (hF : Foot w w' kb vO vC) (hk : w.heap[kb]? = some (Obj.cells ck 35 (0, 0)))
    (hO : ∀ g, vO.ownBlock = some g → ∃ cur, w.heap[g]? = some (Obj.cells cur tO (0, 0))) (hC : ∀ g, vC.ownBlock = some g → ∃ cur, w.heap[g]? = some (Obj.cells cur tC (0, 0)))
    {B : Nat} {e : TypeId} {size : Nat} {v : Value} {n : Nat} {xs : List Value} (h : w.ownsRow B e size v n xs) (h1 : e ≠ 35) (h2 : e ≠ tO) (h3 : e ≠ tC) : w'.ownsRow B e size v n xs :=
  own_same h (fun g hg => by obtain ⟨c, hc⟩ := own_block h g hg; exact foot_block hF hk hO hC g c e hc h1 h2 h3)
theorem lists_nil (w : World) (B : Nat) (eO e : TypeId) (size : Nat) (mk : Nat → List Value) (Q : Nat → Prop) : ListsIn w B eO e size mk (.slice none 0 0) 0 Q :=
  ⟨[], World.ownsRow_nil _ _ _ _, fun i u hu => by simp at hu⟩
theorem nil_block (w : World) (t : TypeId) : ∀ g, Value.ownBlock (.slice none 0 0) = some g → ∃ cur, w.heap[g]? = some (Obj.cells cur t (0, 0)) := fun g hg => by simp [Value.ownBlock] at hg
theorem lists_block {w : World} {B : Nat} {eO e : TypeId} {size : Nat} {mk : Nat → List Value} {v : Value} {N : Nat} {Q : Nat → Prop} (h : ListsIn w B eO e size mk v N Q) : ∀ g, v.ownBlock = some g → ∃ cur, w.heap[g]? = some (Obj.cells cur eO (0, 0)) := by
  obtain ⟨Ls, h1, _⟩ := h
  exact own_block h1
theorem lists_base {w : World} {B : Nat} {eO e : TypeId} {size : Nat} {mk : Nat → List Value} {v : Value} {N : Nat} {Q : Nat → Prop} (h : ListsIn w B eO e size mk v N Q) : ∀ g, v.ownBlock = some g → B ≤ g := by
  obtain ⟨Ls, h1, _⟩ := h
  exact fun g hg => (h1.lt g hg).1

set_option maxRecDepth 100000 in
set_option maxHeartbeats 4000000 in
theorem bookEnds_any (w : World) (B kb : Nat) (vF vC vW : Value) (N : Nat) (P : Nat → Prop) (fs : List (Nat × Nat × ByteArray))
    (hkb : w.heap[kb]? = some (.cells #[.slice none 0 0, vF, .slice none 0 0, .slice none 0 0, .bool false, .slice none 0 0, .slice none 0 0, vC, vW, .slice none 0 0, .slice none 0 0, .slice none 0 0, .slice none 0 0] 35 (0, 0)))
    (hL : ListsIn w B 31 40 3 mkF vF N P) (hap : ∀ g, P g → vC.ownBlock ≠ some g)
    (hC : w.ownsRow B 40 3 vC fs.length (fs.flatMap Pl.frC)) (hW : w.ownsRow B 40 3 vW fs.length (fs.flatMap Pl.frC)) (hN : N % 4 = 0) (hN2 : N ≤ 900) (hfs : fs.length ≤ 1000000) (hB : B ≤ w.heap.size) (hkB : B ≤ kb) :
    Calls Try.prog 17 #[.pointer (some ⟨kb, 0, none⟩)] w fun e w' => e = .returned (.bool true) ∧ Below B w w' := by
  go_enter Try.func17, Try.ntmps17
  go_wp2_with fail
  refine (intMarked_any w B kb _ _ _ _ _ _ _ _ _ _ 0 (fun _ => True) hkb (lists_nil _ _ _ _ _ _ _) rfl (by decide) hB).mono ?_
  rintro e w1 ⟨rfl, vI, hk1, hI1, hF1, _⟩
  have hL1 := foot_lists hF1 hkb (nil_block w 0) (nil_block w 0) hL (by decide) (by decide) (by decide)
  have hC1 := foot_own hF1 hkb (nil_block w 0) (nil_block w 0) hC (by decide) (by decide) (by decide)
  have hW1 := foot_own hF1 hkb (nil_block w 0) (nil_block w 0) hW (by decide) (by decide) (by decide)
  have hs1 := hF1.size
  have hB1 : Below B w w1 := hF1.below hkB (fun g hg => by simp [Value.ownBlock] at hg) (fun g hg => by simp [Value.ownBlock] at hg) hB
  clear hF1 hkb hL hC hW
  go_wp2_with fail
  refine (frameMarked_any w1 B kb _ _ _ _ _ _ _ _ _ _ _ _ N P fs hk1 hL1 hap hC1 hW1 hN hN2 hfs (by omega)).mono ?_
  rintro e w2 ⟨rfl, vF2, hk2, hL2, hF2, _⟩
  have hI2 := foot_lists hF2 hk1 (lists_block hL1) (own_block hC1) hI1 (by decide) (by decide) (by decide)
  have hs2 := hF2.size
  have hB2 : Below B w w2 := hB1.trans (hF2.below hkB (lists_base hL1) (fun g hg => (hC1.lt g hg).1) (by omega))
  clear hF2 hk1 hL1 hC1 hW1 hI1 hB1 hap
  go_wp2_with fail
  refine (textMarked_any w2 B kb _ _ _ _ _ _ _ _ _ _ 0 (fun _ => True) hk2 (lists_nil _ _ _ _ _ _ _) rfl (by decide) (by omega)).mono ?_
  rintro e w3 ⟨rfl, vT, hk3, hT3, hF3, _⟩
  have hI3 := foot_lists hF3 hk2 (nil_block w2 0) (nil_block w2 0) hI2 (by decide) (by decide) (by decide)
  have hL3 := foot_lists hF3 hk2 (nil_block w2 0) (nil_block w2 0) hL2 (by decide) (by decide) (by decide)
  have hs3 := hF3.size
  have hB3 : Below B w w3 := hB2.trans (hF3.below hkB (fun g hg => by simp [Value.ownBlock] at hg) (fun g hg => by simp [Value.ownBlock] at hg) (by omega))
  clear hF3 hk2 hL2 hI2 hB2
  go_wp2_with fail
  refine (actMarked_any w3 B kb _ _ _ _ _ _ _ _ _ _ 0 (fun _ => True) hk3 (lists_nil _ _ _ _ _ _ _) rfl (by decide) (by omega)).mono ?_
  rintro e w4 ⟨rfl, vA, hk4, hA4, hF4, _⟩
  have hI4 := foot_lists hF4 hk3 (nil_block w3 0) (nil_block w3 0) hI3 (by decide) (by decide) (by decide)
  have hL4 := foot_lists hF4 hk3 (nil_block w3 0) (nil_block w3 0) hL3 (by decide) (by decide) (by decide)
  have hT4 := foot_lists hF4 hk3 (nil_block w3 0) (nil_block w3 0) hT3 (by decide) (by decide) (by decide)
  have hs4 := hF4.size
  have hB4 : Below B w w4 := hB3.trans (hF4.below hkB (fun g hg => by simp [Value.ownBlock] at hg) (fun g hg => by simp [Value.ownBlock] at hg) (by omega))
  clear hF4 hk3 hL3 hI3 hT3 hB3
  go_wp2_with fail
  refine (still_any w4 B kb vI vF2 vA vT _ _ _ (N + 4) _ _ [] hk4 hI4.lists hL4.lists hA4.lists hT4.lists (World.ownsRow_nil _ _ _ _) (World.ownsRow_nil _ _ _ _) ⟨by omega, by omega, by omega, by omega⟩ (by decide)).mono ?_
  rintro e w5 ⟨rfl, hb5⟩
  go_wp2
  go_ret
  exact ⟨rfl, hB4.trans (hb5.mono (by omega))⟩
end Go.Proofs.Ytcpldcojckhapaa
