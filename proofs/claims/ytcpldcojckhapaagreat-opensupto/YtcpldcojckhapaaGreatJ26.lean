/-
  
-/
import Derived.Test.YtcpldcojckhapaaGreatJ25
import Derived.Test.YtcpldcojckhapaaGreatBV
import Derived.Test.YtcpldcojckhapaaGreatJ6
import Derived.Laws.AppendOwnNone
import Derived.Laws.AppendOwn
set_option maxRecDepth 100000
namespace Go.Proofs.YtcpldcojckhapaaGreat
open Go.RowKit
structure BookStep (w w' : World) (kb : Nat) (b b' : Bks) (v : Value) : Prop where
  os : w'.os = w.os
  tape : w'.tape = w.tape
  output : w'.output = w.output
  size : w.heap.size <= w'.heap.size
  keep : ∀ g, g < w.heap.size -> ¬ b.on kb g -> w'.heap[g]? = w.heap[g]?
  wt : ∀ (g : Nat) (cur : Array Value), w.heap[g]? = some (.cells cur 163 (0, 0)) -> w'.heap[g]? = w.heap[g]?
  on : ∀ g, b'.on kb g -> b.on kb g ∨ v.ownBlock = some g ∨ w.heap.size <= g
theorem foot163 {w w' : World} {kb : Nat} {vO vC : Value} (hF : Foot w w' kb vO vC) {a0 : Array Value} {t0 tO tC : TypeId} (h0 : w.heap[kb]? = some (.cells a0 t0 (0, 0))) (hO : ∀ g, vO.ownBlock = some g -> ∃ cur, w.heap[g]? = some (.cells cur tO (0, 0))) (hC : ∀ g, vC.ownBlock = some g -> ∃ cur, w.heap[g]? = some (.cells cur tC (0, 0))) (n0 : t0 ≠ 163) (nO : tO ≠ 163) (nC : tC ≠ 163) : ∀ (g : Nat) (cur : Array Value), w.heap[g]? = some (.cells cur 163 (0, 0)) -> w'.heap[g]? = w.heap[g]? := fun g cur hg => by
  have key : ∀ {a : Array Value} {t : TypeId}, w.heap[g]? = some (.cells a t (0, 0)) -> t ≠ 163 -> False := fun h1 h2 => by
    rw [hg] at h1
    simp only [Option.some.injEq, Obj.cells.injEq, and_true] at h1
    exact h2 h1.2.symm
  exact hF.block g (lt_of_block hg) (fun e => key (e ▸ h0) n0) (fun e => by obtain ⟨a, ha⟩ := hO g e; exact key ha nO) (fun e => by obtain ⟨a, ha⟩ := hC g e; exact key ha nC)
theorem book_int (w : World) (B kb m : Nat) (b : Bks) (vL : Value) (xs : List Int) (h : BookIn w B kb m b) (hm : m <= 1000000) (hV : w.ownsRow B 3 1 vL xs.length (xs.flatMap encI)) (hx : xs.length <= 1900000) (hf : ∀ g, vL.ownBlock = some g -> ¬ b.on kb g) :
    Calls Tryz.prog 40 #[.pointer (some ⟨kb, 0, none⟩), vL] w fun e w' => e = .returned (.tuple #[]) /\ ∃ b', BookIn w' B kb (m + 1) b' /\ BookStep w w' kb b b' vL /\ b'.xI = xs /\ b'.cI = vL := by
  refine (intTake_any w B kb b.oF b.oA b.oT b.cF b.wF b.cT b.wT b.cA b.wA b.oI b.cI b.wI vL b.nI b.pI b.xI xs h.at' h.LI h.PI h.CI h.WI h.nI.1 (by have := h.nI.2; omega) h.xI hx h.lo.2 hV (fun g hg e => hf g hg (.inr (.inr (.inr (.inr (.inr (.inl (.inr (.inl e)))))))))).mono ?_
  rintro e w' ⟨rfl, vF', vW', hk', hL', hV', hW2, hF, hO', hW'⟩
  have hO := lists_block h.LI
  have hC := own_block h.CI
  have hs := hF.size
  refine ⟨rfl, { b with oI := vF', cI := vL, wI := vW', nI := b.nI + 4, pI := (fun g => (b.pI g ∨ b.cI.ownBlock = some g ∨ w.heap.size <= g) /\ g < w'.heap.size), xI := xs }, ?_, ?_, rfl, rfl⟩
  . refine ⟨hk', hL'.weaken (fun g hg hq => ⟨hq, hg⟩), foot_lists hF h.at' hO hC h.LF (by decide) (by decide) (by decide), foot_lists hF h.at' hO hC h.LA (by decide) (by decide) (by decide), foot_lists hF h.at' hO hC h.LT (by decide) (by decide) (by decide), (fun g hg e => by
      rcases hg.1 with r | r | r
      . exact hf g e (.inr (.inr (.inr (.inr (.inr (.inl (.inl r)))))))
      . exact hf g e (.inr (.inr (.inr (.inr (.inr (.inl (.inr (.inl r))))))))
      . have := (hV.lt g e).2; omega), h.PF, h.PA, h.PT, hV', hW2, foot_own hF h.at' hO hC h.CF (by decide) (by decide) (by decide), foot_own hF h.at' hO hC h.WF (by decide) (by decide) (by decide), foot_own hF h.at' hO hC h.CA (by decide) (by decide) (by decide), foot_own hF h.at' hO hC h.WA (by decide) (by decide) (by decide), foot_own hF h.at' hO hC h.CT (by decide) (by decide) (by decide), foot_own hF h.at' hO hC h.WT (by decide) (by decide) (by decide), (by have := h.nI; show (b.nI + 4) % 4 = 0 /\ b.nI + 4 <= 4 * (m + 1); omega), (by have := h.nF; show b.nF % 4 = 0 /\ b.nF <= 4 * (m + 1); omega), (by have := h.nA; show b.nA % 4 = 0 /\ b.nA <= 4 * (m + 1); omega), (by have := h.nT; show b.nT % 4 = 0 /\ b.nT <= 4 * (m + 1); omega), hx, h.xF, h.xA, h.xT, ?_, ⟨h.lo.1, Nat.le_trans h.lo.2 hs⟩⟩
    intro g hg
    unfold Bks.on Bks.ints at hg
    have hh : ∀ g, b.on kb g -> g < w'.heap.size := fun g hg => Nat.lt_of_lt_of_le (h.here g hg) hs
    rcases hg with r | r | r | r | r | (r | r | r) | (r | r | r) | (r | r | r) | (r | r | r)
    . exact hh g (.inl r)
    . obtain ⟨cg, hcg⟩ := lists_block hL' g r
      exact lt_of_block hcg
    . exact hh g (.inr (.inr (.inl r)))
    . exact hh g (.inr (.inr (.inr (.inl r))))
    . exact hh g (.inr (.inr (.inr (.inr (.inl r)))))
    . exact r.2
    . exact (hV'.lt g r).2
    . exact (hW2.lt g r).2
    . exact hh g (.inr (.inr (.inr (.inr (.inr (.inr (.inl (.inl r))))))))
    . exact hh g (.inr (.inr (.inr (.inr (.inr (.inr (.inl (.inr (.inl r)))))))))
    . exact hh g (.inr (.inr (.inr (.inr (.inr (.inr (.inl (.inr (.inr r)))))))))
    . exact hh g (.inr (.inr (.inr (.inr (.inr (.inr (.inr (.inl (.inl r)))))))))
    . exact hh g (.inr (.inr (.inr (.inr (.inr (.inr (.inr (.inl (.inr (.inl r))))))))))
    . exact hh g (.inr (.inr (.inr (.inr (.inr (.inr (.inr (.inl (.inr (.inr r))))))))))
    . exact hh g (.inr (.inr (.inr (.inr (.inr (.inr (.inr (.inr (.inl r)))))))))
    . exact hh g (.inr (.inr (.inr (.inr (.inr (.inr (.inr (.inr (.inr (.inl r))))))))))
    . exact hh g (.inr (.inr (.inr (.inr (.inr (.inr (.inr (.inr (.inr (.inr r))))))))))
  . refine ⟨hF.os, hF.tape, hF.output, hF.size, fun g hg hn => hF.block g hg (fun e => hn (.inl e)) (fun e => hn (.inr (.inl e))) (fun e => hn (.inr (.inr (.inr (.inr (.inr (.inl (.inr (.inl e))))))))), foot163 hF h.at' hO hC (by decide) (by decide) (by decide), ?_⟩
    intro g hg
    unfold Bks.on Bks.ints at hg
    rcases hg with r | r | r | r | r | (r | r | r) | (r | r | r) | (r | r | r) | (r | r | r)
    . exact .inl (.inl r)
    . rcases hO' g r with r | r
      . exact .inl (.inr (.inl r))
      . exact .inr (.inr r)
    . exact .inl (.inr (.inr (.inl r)))
    . exact .inl (.inr (.inr (.inr (.inl r))))
    . exact .inl (.inr (.inr (.inr (.inr (.inl r)))))
    . rcases r.1 with r | r | r
      . exact .inl (.inr (.inr (.inr (.inr (.inr (.inl (.inl r)))))))
      . exact .inl (.inr (.inr (.inr (.inr (.inr (.inl (.inr (.inl r))))))))
      . exact .inr (.inr r)
    . exact .inr (.inl r)
    . exact .inr (.inr (hW' g r))
    . exact .inl (.inr (.inr (.inr (.inr (.inr (.inr (.inl (.inl r))))))))
    . exact .inl (.inr (.inr (.inr (.inr (.inr (.inr (.inl (.inr (.inl r)))))))))
    . exact .inl (.inr (.inr (.inr (.inr (.inr (.inr (.inl (.inr (.inr r)))))))))
    . exact .inl (.inr (.inr (.inr (.inr (.inr (.inr (.inr (.inl (.inl r)))))))))
    . exact .inl (.inr (.inr (.inr (.inr (.inr (.inr (.inr (.inl (.inr (.inl r))))))))))
    . exact .inl (.inr (.inr (.inr (.inr (.inr (.inr (.inr (.inl (.inr (.inr r))))))))))
    . exact .inl (.inr (.inr (.inr (.inr (.inr (.inr (.inr (.inr (.inl r)))))))))
    . exact .inl (.inr (.inr (.inr (.inr (.inr (.inr (.inr (.inr (.inr (.inl r))))))))))
    . exact .inl (.inr (.inr (.inr (.inr (.inr (.inr (.inr (.inr (.inr (.inr r))))))))))
theorem book_act (w : World) (B kb m : Nat) (b : Bks) (vL : Value) (xs : List (Int × Int × Int × ByteArray)) (h : BookIn w B kb m b) (hm : m <= 1000000) (hV : w.ownsRow B 77 4 vL xs.length (xs.flatMap encA)) (hx : xs.length <= 1900000) (hf : ∀ g, vL.ownBlock = some g -> ¬ b.on kb g) :
    Calls Tryz.prog 52 #[.pointer (some ⟨kb, 0, none⟩), vL] w fun e w' => e = .returned (.tuple #[]) /\ ∃ b', BookIn w' B kb (m + 1) b' /\ BookStep w w' kb b b' vL /\ b'.xA = xs /\ b'.cA = vL := by
  refine (actTake_any w B kb b.oI b.oF b.oT b.cI b.wI b.cF b.wF b.cT b.wT b.oA b.cA b.wA vL b.nA b.pA b.xA xs h.at' h.LA h.PA h.CA h.WA h.nA.1 (by have := h.nA.2; omega) h.xA hx h.lo.2 hV (fun g hg e => hf g hg (.inr (.inr (.inr (.inr (.inr (.inr (.inr (.inl (.inr (.inl e)))))))))))).mono ?_
  rintro e w' ⟨rfl, vF', vW', hk', hL', hV', hW2, hF, hO', hW'⟩
  have hO := lists_block h.LA
  have hC := own_block h.CA
  have hs := hF.size
  refine ⟨rfl, { b with oA := vF', cA := vL, wA := vW', nA := b.nA + 4, pA := (fun g => (b.pA g ∨ b.cA.ownBlock = some g ∨ w.heap.size <= g) /\ g < w'.heap.size), xA := xs }, ?_, ?_, rfl, rfl⟩
  . refine ⟨hk', foot_lists hF h.at' hO hC h.LI (by decide) (by decide) (by decide), foot_lists hF h.at' hO hC h.LF (by decide) (by decide) (by decide), hL'.weaken (fun g hg hq => ⟨hq, hg⟩), foot_lists hF h.at' hO hC h.LT (by decide) (by decide) (by decide), h.PI, h.PF, (fun g hg e => by
      rcases hg.1 with r | r | r
      . exact hf g e (.inr (.inr (.inr (.inr (.inr (.inr (.inr (.inl (.inl r)))))))))
      . exact hf g e (.inr (.inr (.inr (.inr (.inr (.inr (.inr (.inl (.inr (.inl r))))))))))
      . have := (hV.lt g e).2; omega), h.PT, foot_own hF h.at' hO hC h.CI (by decide) (by decide) (by decide), foot_own hF h.at' hO hC h.WI (by decide) (by decide) (by decide), foot_own hF h.at' hO hC h.CF (by decide) (by decide) (by decide), foot_own hF h.at' hO hC h.WF (by decide) (by decide) (by decide), hV', hW2, foot_own hF h.at' hO hC h.CT (by decide) (by decide) (by decide), foot_own hF h.at' hO hC h.WT (by decide) (by decide) (by decide), (by have := h.nI; show b.nI % 4 = 0 /\ b.nI <= 4 * (m + 1); omega), (by have := h.nF; show b.nF % 4 = 0 /\ b.nF <= 4 * (m + 1); omega), (by have := h.nA; show (b.nA + 4) % 4 = 0 /\ b.nA + 4 <= 4 * (m + 1); omega), (by have := h.nT; show b.nT % 4 = 0 /\ b.nT <= 4 * (m + 1); omega), h.xI, h.xF, hx, h.xT, ?_, ⟨h.lo.1, Nat.le_trans h.lo.2 hs⟩⟩
    intro g hg
    unfold Bks.on Bks.ints at hg
    have hh : ∀ g, b.on kb g -> g < w'.heap.size := fun g hg => Nat.lt_of_lt_of_le (h.here g hg) hs
    rcases hg with r | r | r | r | r | (r | r | r) | (r | r | r) | (r | r | r) | (r | r | r)
    . exact hh g (.inl r)
    . exact hh g (.inr (.inl r))
    . exact hh g (.inr (.inr (.inl r)))
    . obtain ⟨cg, hcg⟩ := lists_block hL' g r
      exact lt_of_block hcg
    . exact hh g (.inr (.inr (.inr (.inr (.inl r)))))
    . exact hh g (.inr (.inr (.inr (.inr (.inr (.inl (.inl r)))))))
    . exact hh g (.inr (.inr (.inr (.inr (.inr (.inl (.inr (.inl r))))))))
    . exact hh g (.inr (.inr (.inr (.inr (.inr (.inl (.inr (.inr r))))))))
    . exact hh g (.inr (.inr (.inr (.inr (.inr (.inr (.inl (.inl r))))))))
    . exact hh g (.inr (.inr (.inr (.inr (.inr (.inr (.inl (.inr (.inl r)))))))))
    . exact hh g (.inr (.inr (.inr (.inr (.inr (.inr (.inl (.inr (.inr r)))))))))
    . exact r.2
    . exact (hV'.lt g r).2
    . exact (hW2.lt g r).2
    . exact hh g (.inr (.inr (.inr (.inr (.inr (.inr (.inr (.inr (.inl r)))))))))
    . exact hh g (.inr (.inr (.inr (.inr (.inr (.inr (.inr (.inr (.inr (.inl r))))))))))
    . exact hh g (.inr (.inr (.inr (.inr (.inr (.inr (.inr (.inr (.inr (.inr r))))))))))
  . refine ⟨hF.os, hF.tape, hF.output, hF.size, fun g hg hn => hF.block g hg (fun e => hn (.inl e)) (fun e => hn (.inr (.inr (.inr (.inl e))))) (fun e => hn (.inr (.inr (.inr (.inr (.inr (.inr (.inr (.inl (.inr (.inl e))))))))))), foot163 hF h.at' hO hC (by decide) (by decide) (by decide), ?_⟩
    intro g hg
    unfold Bks.on Bks.ints at hg
    rcases hg with r | r | r | r | r | (r | r | r) | (r | r | r) | (r | r | r) | (r | r | r)
    . exact .inl (.inl r)
    . exact .inl (.inr (.inl r))
    . exact .inl (.inr (.inr (.inl r)))
    . rcases hO' g r with r | r
      . exact .inl (.inr (.inr (.inr (.inl r))))
      . exact .inr (.inr r)
    . exact .inl (.inr (.inr (.inr (.inr (.inl r)))))
    . exact .inl (.inr (.inr (.inr (.inr (.inr (.inl (.inl r)))))))
    . exact .inl (.inr (.inr (.inr (.inr (.inr (.inl (.inr (.inl r))))))))
    . exact .inl (.inr (.inr (.inr (.inr (.inr (.inl (.inr (.inr r))))))))
    . exact .inl (.inr (.inr (.inr (.inr (.inr (.inr (.inl (.inl r))))))))
    . exact .inl (.inr (.inr (.inr (.inr (.inr (.inr (.inl (.inr (.inl r)))))))))
    . exact .inl (.inr (.inr (.inr (.inr (.inr (.inr (.inl (.inr (.inr r)))))))))
    . rcases r.1 with r | r | r
      . exact .inl (.inr (.inr (.inr (.inr (.inr (.inr (.inr (.inl (.inl r)))))))))
      . exact .inl (.inr (.inr (.inr (.inr (.inr (.inr (.inr (.inl (.inr (.inl r))))))))))
      . exact .inr (.inr r)
    . exact .inr (.inl r)
    . exact .inr (.inr (hW' g r))
    . exact .inl (.inr (.inr (.inr (.inr (.inr (.inr (.inr (.inr (.inl r)))))))))
    . exact .inl (.inr (.inr (.inr (.inr (.inr (.inr (.inr (.inr (.inr (.inl r))))))))))
    . exact .inl (.inr (.inr (.inr (.inr (.inr (.inr (.inr (.inr (.inr (.inr r))))))))))
theorem book_text (w : World) (B kb m : Nat) (b : Bks) (vL : Value) (xs : List ByteArray) (h : BookIn w B kb m b) (hm : m <= 1000000) (hV : w.ownsRow B 9 1 vL xs.length (xs.flatMap encT)) (hx : xs.length <= 1900000) (hf : ∀ g, vL.ownBlock = some g -> ¬ b.on kb g) :
    Calls Tryz.prog 51 #[.pointer (some ⟨kb, 0, none⟩), vL] w fun e w' => e = .returned (.tuple #[]) /\ ∃ b', BookIn w' B kb (m + 1) b' /\ BookStep w w' kb b b' vL /\ b'.xT = xs /\ b'.cT = vL := by
  refine (textTake_any w B kb b.oI b.oF b.oA b.cI b.wI b.cF b.wF b.cA b.wA b.oT b.cT b.wT vL b.nT b.pT b.xT xs h.at' h.LT h.PT h.CT h.WT h.nT.1 (by have := h.nT.2; omega) h.xT hx h.lo.2 hV (fun g hg e => hf g hg (.inr (.inr (.inr (.inr (.inr (.inr (.inr (.inr (.inr (.inl e)))))))))))).mono ?_
  rintro e w' ⟨rfl, vF', vW', hk', hL', hV', hW2, hF, hO', hW'⟩
  have hO := lists_block h.LT
  have hC := own_block h.CT
  have hs := hF.size
  refine ⟨rfl, { b with oT := vF', cT := vL, wT := vW', nT := b.nT + 4, pT := (fun g => (b.pT g ∨ b.cT.ownBlock = some g ∨ w.heap.size <= g) /\ g < w'.heap.size), xT := xs }, ?_, ?_, rfl, rfl⟩
  . refine ⟨hk', foot_lists hF h.at' hO hC h.LI (by decide) (by decide) (by decide), foot_lists hF h.at' hO hC h.LF (by decide) (by decide) (by decide), foot_lists hF h.at' hO hC h.LA (by decide) (by decide) (by decide), hL'.weaken (fun g hg hq => ⟨hq, hg⟩), h.PI, h.PF, h.PA, (fun g hg e => by
      rcases hg.1 with r | r | r
      . exact hf g e (.inr (.inr (.inr (.inr (.inr (.inr (.inr (.inr (.inl r)))))))))
      . exact hf g e (.inr (.inr (.inr (.inr (.inr (.inr (.inr (.inr (.inr (.inl r))))))))))
      . have := (hV.lt g e).2; omega), foot_own hF h.at' hO hC h.CI (by decide) (by decide) (by decide), foot_own hF h.at' hO hC h.WI (by decide) (by decide) (by decide), foot_own hF h.at' hO hC h.CF (by decide) (by decide) (by decide), foot_own hF h.at' hO hC h.WF (by decide) (by decide) (by decide), foot_own hF h.at' hO hC h.CA (by decide) (by decide) (by decide), foot_own hF h.at' hO hC h.WA (by decide) (by decide) (by decide), hV', hW2, (by have := h.nI; show b.nI % 4 = 0 /\ b.nI <= 4 * (m + 1); omega), (by have := h.nF; show b.nF % 4 = 0 /\ b.nF <= 4 * (m + 1); omega), (by have := h.nA; show b.nA % 4 = 0 /\ b.nA <= 4 * (m + 1); omega), (by have := h.nT; show (b.nT + 4) % 4 = 0 /\ b.nT + 4 <= 4 * (m + 1); omega), h.xI, h.xF, h.xA, hx, ?_, ⟨h.lo.1, Nat.le_trans h.lo.2 hs⟩⟩
    intro g hg
    unfold Bks.on Bks.ints at hg
    have hh : ∀ g, b.on kb g -> g < w'.heap.size := fun g hg => Nat.lt_of_lt_of_le (h.here g hg) hs
    rcases hg with r | r | r | r | r | (r | r | r) | (r | r | r) | (r | r | r) | (r | r | r)
    . exact hh g (.inl r)
    . exact hh g (.inr (.inl r))
    . exact hh g (.inr (.inr (.inl r)))
    . exact hh g (.inr (.inr (.inr (.inl r))))
    . obtain ⟨cg, hcg⟩ := lists_block hL' g r
      exact lt_of_block hcg
    . exact hh g (.inr (.inr (.inr (.inr (.inr (.inl (.inl r)))))))
    . exact hh g (.inr (.inr (.inr (.inr (.inr (.inl (.inr (.inl r))))))))
    . exact hh g (.inr (.inr (.inr (.inr (.inr (.inl (.inr (.inr r))))))))
    . exact hh g (.inr (.inr (.inr (.inr (.inr (.inr (.inl (.inl r))))))))
    . exact hh g (.inr (.inr (.inr (.inr (.inr (.inr (.inl (.inr (.inl r)))))))))
    . exact hh g (.inr (.inr (.inr (.inr (.inr (.inr (.inl (.inr (.inr r)))))))))
    . exact hh g (.inr (.inr (.inr (.inr (.inr (.inr (.inr (.inl (.inl r)))))))))
    . exact hh g (.inr (.inr (.inr (.inr (.inr (.inr (.inr (.inl (.inr (.inl r))))))))))
    . exact hh g (.inr (.inr (.inr (.inr (.inr (.inr (.inr (.inl (.inr (.inr r))))))))))
    . exact r.2
    . exact (hV'.lt g r).2
    . exact (hW2.lt g r).2
  . refine ⟨hF.os, hF.tape, hF.output, hF.size, fun g hg hn => hF.block g hg (fun e => hn (.inl e)) (fun e => hn (.inr (.inr (.inr (.inr (.inl e)))))) (fun e => hn (.inr (.inr (.inr (.inr (.inr (.inr (.inr (.inr (.inr (.inl e))))))))))), foot163 hF h.at' hO hC (by decide) (by decide) (by decide), ?_⟩
    intro g hg
    unfold Bks.on Bks.ints at hg
    rcases hg with r | r | r | r | r | (r | r | r) | (r | r | r) | (r | r | r) | (r | r | r)
    . exact .inl (.inl r)
    . exact .inl (.inr (.inl r))
    . exact .inl (.inr (.inr (.inl r)))
    . exact .inl (.inr (.inr (.inr (.inl r))))
    . rcases hO' g r with r | r
      . exact .inl (.inr (.inr (.inr (.inr (.inl r)))))
      . exact .inr (.inr r)
    . exact .inl (.inr (.inr (.inr (.inr (.inr (.inl (.inl r)))))))
    . exact .inl (.inr (.inr (.inr (.inr (.inr (.inl (.inr (.inl r))))))))
    . exact .inl (.inr (.inr (.inr (.inr (.inr (.inl (.inr (.inr r))))))))
    . exact .inl (.inr (.inr (.inr (.inr (.inr (.inr (.inl (.inl r))))))))
    . exact .inl (.inr (.inr (.inr (.inr (.inr (.inr (.inl (.inr (.inl r)))))))))
    . exact .inl (.inr (.inr (.inr (.inr (.inr (.inr (.inl (.inr (.inr r)))))))))
    . exact .inl (.inr (.inr (.inr (.inr (.inr (.inr (.inr (.inl (.inl r)))))))))
    . exact .inl (.inr (.inr (.inr (.inr (.inr (.inr (.inr (.inl (.inr (.inl r))))))))))
    . exact .inl (.inr (.inr (.inr (.inr (.inr (.inr (.inr (.inl (.inr (.inr r))))))))))
    . rcases r.1 with r | r | r
      . exact .inl (.inr (.inr (.inr (.inr (.inr (.inr (.inr (.inr (.inl r)))))))))
      . exact .inl (.inr (.inr (.inr (.inr (.inr (.inr (.inr (.inr (.inr (.inl r))))))))))
      . exact .inr (.inr r)
    . exact .inr (.inl r)
    . exact .inr (.inr (hW' g r))
theorem book_intMarked (w : World) (B kb m : Nat) (b : Bks) (h : BookIn w B kb m b) (hm : m <= 1000000) :
    Calls Tryz.prog 44 #[.pointer (some ⟨kb, 0, none⟩)] w fun e w' => e = .returned (.tuple #[]) /\ ∃ b', BookIn w' B kb (m + 1) b' /\ BookStep w w' kb b b' (.slice none 0 0) /\ b'.xI = [] /\ b'.cI = .slice none 0 0 := by
  refine (intMarked_any w B kb b.oF b.oA b.oT b.cF b.wF b.cT b.wT b.cA b.wA b.oI b.cI b.wI b.nI b.pI b.xI h.at' h.LI h.PI h.CI h.WI h.nI.1 (by have := h.nI.2; omega) h.xI h.lo.2).mono ?_
  rintro e w' ⟨rfl, vF', hk', hL', hF, hO'⟩
  have hO := lists_block h.LI
  have hC := own_block h.CI
  have hs := hF.size
  refine ⟨rfl, { b with oI := vF', cI := (.slice none 0 0), wI := (.slice none 0 0), nI := b.nI + 4, pI := (fun g => (b.pI g ∨ b.cI.ownBlock = some g ∨ w.heap.size <= g) /\ g < w'.heap.size), xI := [] }, ?_, ?_, rfl, rfl⟩
  . refine ⟨hk', hL'.weaken (fun g hg hq => ⟨hq, hg⟩), foot_lists hF h.at' hO hC h.LF (by decide) (by decide) (by decide), foot_lists hF h.at' hO hC h.LA (by decide) (by decide) (by decide), foot_lists hF h.at' hO hC h.LT (by decide) (by decide) (by decide), (fun g hg e => by simp [Value.ownBlock] at e), h.PF, h.PA, h.PT, World.ownsRow_nil _ _ _ _, World.ownsRow_nil _ _ _ _, foot_own hF h.at' hO hC h.CF (by decide) (by decide) (by decide), foot_own hF h.at' hO hC h.WF (by decide) (by decide) (by decide), foot_own hF h.at' hO hC h.CA (by decide) (by decide) (by decide), foot_own hF h.at' hO hC h.WA (by decide) (by decide) (by decide), foot_own hF h.at' hO hC h.CT (by decide) (by decide) (by decide), foot_own hF h.at' hO hC h.WT (by decide) (by decide) (by decide), (by have := h.nI; show (b.nI + 4) % 4 = 0 /\ b.nI + 4 <= 4 * (m + 1); omega), (by have := h.nF; show b.nF % 4 = 0 /\ b.nF <= 4 * (m + 1); omega), (by have := h.nA; show b.nA % 4 = 0 /\ b.nA <= 4 * (m + 1); omega), (by have := h.nT; show b.nT % 4 = 0 /\ b.nT <= 4 * (m + 1); omega), (by show 0 <= 1900000; omega), h.xF, h.xA, h.xT, ?_, ⟨h.lo.1, Nat.le_trans h.lo.2 hs⟩⟩
    intro g hg
    unfold Bks.on Bks.ints at hg
    have hh : ∀ g, b.on kb g -> g < w'.heap.size := fun g hg => Nat.lt_of_lt_of_le (h.here g hg) hs
    rcases hg with r | r | r | r | r | (r | r | r) | (r | r | r) | (r | r | r) | (r | r | r)
    . exact hh g (.inl r)
    . obtain ⟨cg, hcg⟩ := lists_block hL' g r
      exact lt_of_block hcg
    . exact hh g (.inr (.inr (.inl r)))
    . exact hh g (.inr (.inr (.inr (.inl r))))
    . exact hh g (.inr (.inr (.inr (.inr (.inl r)))))
    . exact r.2
    . simp [Value.ownBlock] at r
    . simp [Value.ownBlock] at r
    . exact hh g (.inr (.inr (.inr (.inr (.inr (.inr (.inl (.inl r))))))))
    . exact hh g (.inr (.inr (.inr (.inr (.inr (.inr (.inl (.inr (.inl r)))))))))
    . exact hh g (.inr (.inr (.inr (.inr (.inr (.inr (.inl (.inr (.inr r)))))))))
    . exact hh g (.inr (.inr (.inr (.inr (.inr (.inr (.inr (.inl (.inl r)))))))))
    . exact hh g (.inr (.inr (.inr (.inr (.inr (.inr (.inr (.inl (.inr (.inl r))))))))))
    . exact hh g (.inr (.inr (.inr (.inr (.inr (.inr (.inr (.inl (.inr (.inr r))))))))))
    . exact hh g (.inr (.inr (.inr (.inr (.inr (.inr (.inr (.inr (.inl r)))))))))
    . exact hh g (.inr (.inr (.inr (.inr (.inr (.inr (.inr (.inr (.inr (.inl r))))))))))
    . exact hh g (.inr (.inr (.inr (.inr (.inr (.inr (.inr (.inr (.inr (.inr r))))))))))
  . refine ⟨hF.os, hF.tape, hF.output, hF.size, fun g hg hn => hF.block g hg (fun e => hn (.inl e)) (fun e => hn (.inr (.inl e))) (fun e => hn (.inr (.inr (.inr (.inr (.inr (.inl (.inr (.inl e))))))))), foot163 hF h.at' hO hC (by decide) (by decide) (by decide), ?_⟩
    intro g hg
    unfold Bks.on Bks.ints at hg
    rcases hg with r | r | r | r | r | (r | r | r) | (r | r | r) | (r | r | r) | (r | r | r)
    . exact .inl (.inl r)
    . rcases hO' g r with r | r
      . exact .inl (.inr (.inl r))
      . exact .inr (.inr r)
    . exact .inl (.inr (.inr (.inl r)))
    . exact .inl (.inr (.inr (.inr (.inl r))))
    . exact .inl (.inr (.inr (.inr (.inr (.inl r)))))
    . rcases r.1 with r | r | r
      . exact .inl (.inr (.inr (.inr (.inr (.inr (.inl (.inl r)))))))
      . exact .inl (.inr (.inr (.inr (.inr (.inr (.inl (.inr (.inl r))))))))
      . exact .inr (.inr r)
    . simp [Value.ownBlock] at r
    . simp [Value.ownBlock] at r
    . exact .inl (.inr (.inr (.inr (.inr (.inr (.inr (.inl (.inl r))))))))
    . exact .inl (.inr (.inr (.inr (.inr (.inr (.inr (.inl (.inr (.inl r)))))))))
    . exact .inl (.inr (.inr (.inr (.inr (.inr (.inr (.inl (.inr (.inr r)))))))))
    . exact .inl (.inr (.inr (.inr (.inr (.inr (.inr (.inr (.inl (.inl r)))))))))
    . exact .inl (.inr (.inr (.inr (.inr (.inr (.inr (.inr (.inl (.inr (.inl r))))))))))
    . exact .inl (.inr (.inr (.inr (.inr (.inr (.inr (.inr (.inl (.inr (.inr r))))))))))
    . exact .inl (.inr (.inr (.inr (.inr (.inr (.inr (.inr (.inr (.inl r)))))))))
    . exact .inl (.inr (.inr (.inr (.inr (.inr (.inr (.inr (.inr (.inr (.inl r))))))))))
    . exact .inl (.inr (.inr (.inr (.inr (.inr (.inr (.inr (.inr (.inr (.inr r))))))))))
theorem book_textMarked (w : World) (B kb m : Nat) (b : Bks) (h : BookIn w B kb m b) (hm : m <= 1000000) :
    Calls Tryz.prog 46 #[.pointer (some ⟨kb, 0, none⟩)] w fun e w' => e = .returned (.tuple #[]) /\ ∃ b', BookIn w' B kb (m + 1) b' /\ BookStep w w' kb b b' (.slice none 0 0) /\ b'.xT = [] /\ b'.cT = .slice none 0 0 := by
  refine (textMarked_any w B kb b.oI b.oF b.oA b.cI b.wI b.cF b.wF b.cA b.wA b.oT b.cT b.wT b.nT b.pT b.xT h.at' h.LT h.PT h.CT h.WT h.nT.1 (by have := h.nT.2; omega) h.xT h.lo.2).mono ?_
  rintro e w' ⟨rfl, vF', hk', hL', hF, hO'⟩
  have hO := lists_block h.LT
  have hC := own_block h.CT
  have hs := hF.size
  refine ⟨rfl, { b with oT := vF', cT := (.slice none 0 0), wT := (.slice none 0 0), nT := b.nT + 4, pT := (fun g => (b.pT g ∨ b.cT.ownBlock = some g ∨ w.heap.size <= g) /\ g < w'.heap.size), xT := [] }, ?_, ?_, rfl, rfl⟩
  . refine ⟨hk', foot_lists hF h.at' hO hC h.LI (by decide) (by decide) (by decide), foot_lists hF h.at' hO hC h.LF (by decide) (by decide) (by decide), foot_lists hF h.at' hO hC h.LA (by decide) (by decide) (by decide), hL'.weaken (fun g hg hq => ⟨hq, hg⟩), h.PI, h.PF, h.PA, (fun g hg e => by simp [Value.ownBlock] at e), foot_own hF h.at' hO hC h.CI (by decide) (by decide) (by decide), foot_own hF h.at' hO hC h.WI (by decide) (by decide) (by decide), foot_own hF h.at' hO hC h.CF (by decide) (by decide) (by decide), foot_own hF h.at' hO hC h.WF (by decide) (by decide) (by decide), foot_own hF h.at' hO hC h.CA (by decide) (by decide) (by decide), foot_own hF h.at' hO hC h.WA (by decide) (by decide) (by decide), World.ownsRow_nil _ _ _ _, World.ownsRow_nil _ _ _ _, (by have := h.nI; show b.nI % 4 = 0 /\ b.nI <= 4 * (m + 1); omega), (by have := h.nF; show b.nF % 4 = 0 /\ b.nF <= 4 * (m + 1); omega), (by have := h.nA; show b.nA % 4 = 0 /\ b.nA <= 4 * (m + 1); omega), (by have := h.nT; show (b.nT + 4) % 4 = 0 /\ b.nT + 4 <= 4 * (m + 1); omega), h.xI, h.xF, h.xA, (by show 0 <= 1900000; omega), ?_, ⟨h.lo.1, Nat.le_trans h.lo.2 hs⟩⟩
    intro g hg
    unfold Bks.on Bks.ints at hg
    have hh : ∀ g, b.on kb g -> g < w'.heap.size := fun g hg => Nat.lt_of_lt_of_le (h.here g hg) hs
    rcases hg with r | r | r | r | r | (r | r | r) | (r | r | r) | (r | r | r) | (r | r | r)
    . exact hh g (.inl r)
    . exact hh g (.inr (.inl r))
    . exact hh g (.inr (.inr (.inl r)))
    . exact hh g (.inr (.inr (.inr (.inl r))))
    . obtain ⟨cg, hcg⟩ := lists_block hL' g r
      exact lt_of_block hcg
    . exact hh g (.inr (.inr (.inr (.inr (.inr (.inl (.inl r)))))))
    . exact hh g (.inr (.inr (.inr (.inr (.inr (.inl (.inr (.inl r))))))))
    . exact hh g (.inr (.inr (.inr (.inr (.inr (.inl (.inr (.inr r))))))))
    . exact hh g (.inr (.inr (.inr (.inr (.inr (.inr (.inl (.inl r))))))))
    . exact hh g (.inr (.inr (.inr (.inr (.inr (.inr (.inl (.inr (.inl r)))))))))
    . exact hh g (.inr (.inr (.inr (.inr (.inr (.inr (.inl (.inr (.inr r)))))))))
    . exact hh g (.inr (.inr (.inr (.inr (.inr (.inr (.inr (.inl (.inl r)))))))))
    . exact hh g (.inr (.inr (.inr (.inr (.inr (.inr (.inr (.inl (.inr (.inl r))))))))))
    . exact hh g (.inr (.inr (.inr (.inr (.inr (.inr (.inr (.inl (.inr (.inr r))))))))))
    . exact r.2
    . simp [Value.ownBlock] at r
    . simp [Value.ownBlock] at r
  . refine ⟨hF.os, hF.tape, hF.output, hF.size, fun g hg hn => hF.block g hg (fun e => hn (.inl e)) (fun e => hn (.inr (.inr (.inr (.inr (.inl e)))))) (fun e => hn (.inr (.inr (.inr (.inr (.inr (.inr (.inr (.inr (.inr (.inl e))))))))))), foot163 hF h.at' hO hC (by decide) (by decide) (by decide), ?_⟩
    intro g hg
    unfold Bks.on Bks.ints at hg
    rcases hg with r | r | r | r | r | (r | r | r) | (r | r | r) | (r | r | r) | (r | r | r)
    . exact .inl (.inl r)
    . exact .inl (.inr (.inl r))
    . exact .inl (.inr (.inr (.inl r)))
    . exact .inl (.inr (.inr (.inr (.inl r))))
    . rcases hO' g r with r | r
      . exact .inl (.inr (.inr (.inr (.inr (.inl r)))))
      . exact .inr (.inr r)
    . exact .inl (.inr (.inr (.inr (.inr (.inr (.inl (.inl r)))))))
    . exact .inl (.inr (.inr (.inr (.inr (.inr (.inl (.inr (.inl r))))))))
    . exact .inl (.inr (.inr (.inr (.inr (.inr (.inl (.inr (.inr r))))))))
    . exact .inl (.inr (.inr (.inr (.inr (.inr (.inr (.inl (.inl r))))))))
    . exact .inl (.inr (.inr (.inr (.inr (.inr (.inr (.inl (.inr (.inl r)))))))))
    . exact .inl (.inr (.inr (.inr (.inr (.inr (.inr (.inl (.inr (.inr r)))))))))
    . exact .inl (.inr (.inr (.inr (.inr (.inr (.inr (.inr (.inl (.inl r)))))))))
    . exact .inl (.inr (.inr (.inr (.inr (.inr (.inr (.inr (.inl (.inr (.inl r))))))))))
    . exact .inl (.inr (.inr (.inr (.inr (.inr (.inr (.inr (.inl (.inr (.inr r))))))))))
    . rcases r.1 with r | r | r
      . exact .inl (.inr (.inr (.inr (.inr (.inr (.inr (.inr (.inr (.inl r)))))))))
      . exact .inl (.inr (.inr (.inr (.inr (.inr (.inr (.inr (.inr (.inr (.inl r))))))))))
      . exact .inr (.inr r)
    . simp [Value.ownBlock] at r
    . simp [Value.ownBlock] at r
end Go.Proofs.YtcpldcojckhapaaGreat

set_option maxRecDepth 100000
namespace Go.Proofs.YtcpldcojckhapaaGreat
open Go.RowKit
def Src (w : World) (x : Value) (m : Nat) (news : List Value) : Prop := (x = .slice none 0 0 /\ m = 0 /\ news = []) ∨ ∃ (a : Addr) (c : Nat), x = .slice (some a) m c /\ ∀ j u, news[j]? = some u -> w.cell? (a.add j) = some u
theorem wpList_append_src {P : Program} {w : World} {ops : Array Oper} {rest : List Oper} {o : Oper} {a : Act} {Q : Exit -> Act -> World -> Prop} (hgd : o.guard = none) (s x : Operand) (t : TypeId)
    (ho : o.op = .call { callee := .builtin .append, args := #[s, x], argTypes := #[t, t] })
    (base : Nat) (e : TypeId) (i : TypeInfo) (z : Value) (size bytes : Nat) (ht : P.underlying t = some (.slice e)) (hi : P.info? e = some i) (hz : i.zero = some z)
    (hsize : i.size = size) (hby : i.bytes = bytes) (hzs : z.cells.size = size) (hsz : 0 < size)
    (v : Value) (n : Nat) (xs : List Value) (hs : a.eval s = v) (hown : w.ownsRow base e size v n xs)
    (v2 : Value) (m : Nat) (news : List Value) (hx : a.eval x = v2) (hsrc : Src w v2 m news) (hl : news.length = m * size) (h1 : ∀ u ∈ news, u.oneCell' = true)
    (h63 : n + m <= maxLen) (hbytes : (n + m) * bytes <= 140737488355328) (hbase : base <= w.heap.size)
    (h : ∀ v' w', w'.ownsRow base e size v' (n + m) (xs ++ news) -> w.grownBy w' v.ownBlock -> wpList P ops Q rest (a.put o.dst v') w') : wpList P ops Q (o :: rest) a w := by
  rcases hsrc with ⟨rfl, rfl, rfl⟩ | ⟨ad, c, rfl, hc⟩
  . refine wpList_append_own_none hgd s x t ho base e i size ht hi v n xs hs hown hx (h v w ?_ ⟨rfl, rfl, rfl, Nat.le_refl _, fun _ _ _ => rfl⟩)
    rw [List.append_nil, Nat.add_zero]; exact hown
  . exact wpList_append_own w hgd s x t ho base e i z size bytes ht hi hz hsize hby hzs hsz v n xs hs hown ad m c news hx hl hc h1 h63 hbytes hbase (fun v' w' h2 h3 _ => h v' w' h2 h3)
theorem Src.bel {w w' : World} {x : Value} {m : Nat} {news : List Value} (h : Src w x m news) (hl : ∀ a c, x = .slice (some a) m c -> a.block < w.heap.size) (hb : Below w.heap.size w w') : Src w' x m news := by
  rcases h with h | ⟨a, c, rfl, hc⟩
  . exact .inl h
  . refine .inr ⟨a, c, rfl, fun j u hj => ?_⟩
    have := hl a c rfl
    obtain ⟨b, o, s⟩ := a
    have e : ((⟨b, o, s⟩ : Addr).add j).block = b := by by_cases h0 : j = 0 <;> simp [Addr.add, h0]
    have e2 : w'.heap[((⟨b, o, s⟩ : Addr).add j).block]? = w.heap[((⟨b, o, s⟩ : Addr).add j).block]? := by rw [e]; exact hb.block b this
    exact (World.cell?_of_block e2).trans (hc j u hj)
theorem own_setlow {w : World} {C : Nat} {e : TypeId} {size : Nat} {v : Value} {n : Nat} {xs : List Value} (h : w.ownsRow C e size v n xs) (b k : Nat) (x : Value) (hb : b < C) : (w.setCell ⟨b, k, none⟩ x).ownsRow C e size v n xs :=
  own_same h (fun g hg => heap_setCell_other w _ _ _ (by have := (h.lt g hg).1; show g ≠ b; omega))
set_option maxRecDepth 100000 in
set_option maxHeartbeats 2000000 in
theorem ownConfig_any (s0 s1 s2 s3 c h u b : Int) (n k : Nat) (ad : Option Addr) (ls : List Int) (w : World) (hl : ls.length = n) (hn : n <= 1900000) (hsrc : Src w (.slice ad n k) n (ls.flatMap encI)) (hlt : ∀ a, ad = some a -> a.block < w.heap.size) :
    Calls Tryz.prog 15 #[.agg #[.int .i64 s0, .int .i64 s1, .int .i64 s2, .int .i64 s3, .int .i64 c, .int .i64 h, .int .i64 u, .slice ad n k, .int .i64 b]] w fun e w' => ∃ g cap, e = .returned (.agg #[.int .i64 s0, .int .i64 s1, .int .i64 s2, .int .i64 s3, .int .i64 c, .int .i64 h, .int .i64 u, .slice (some ⟨g, 0, none⟩) n cap, .int .i64 b]) /\ w'.ownsRow w.heap.size 3 1 (.slice (some ⟨g, 0, none⟩) (n + 1) cap) (n + 1) ((ls ++ [70000]).flatMap encI) /\ Below w.heap.size w w' := by
  obtain ⟨i0, hi, hz0, hz1, hz2⟩ := info_parts Tryz.infoEI
  obtain ⟨W, hW, hWs, hWb, hWg⟩ := cfg_new w s0 s1 s2 s3 c h u b (.slice ad n k)
  obtain ⟨X, hX⟩ : ∃ X, X = W.alloc (.cells #[.int .i64 0, .int .i64 0, .int .i64 0, .int .i64 0, .int .i64 0, .int .i64 0, .int .i64 0, .slice none 0 0, .int .i64 0] 39) := ⟨_, rfl⟩
  have hXb : Below w.heap.size w X := by rw [hX]; exact bel_alloc hWb _
  have hXs : X.heap.size = w.heap.size + 2 := by rw [hX]; simp; omega
  have hXg : X.heap[w.heap.size]? = some (.cells #[.int .i64 s0, .int .i64 s1, .int .i64 s2, .int .i64 s3, .int .i64 c, .int .i64 h, .int .i64 u, .slice ad n k, .int .i64 b] 39 (0, 0)) := by rw [hX, heap_alloc_old _ _ (by omega)]; exact hWg
  have hXr : X.heap[w.heap.size + 1]? = some (.cells #[.int .i64 0, .int .i64 0, .int .i64 0, .int .i64 0, .int .i64 0, .int .i64 0, .int .i64 0, .slice none 0 0, .int .i64 0] 39 (0, 0)) := by rw [hX, <- hWs]; exact heap_alloc_new W _
  have HSR := hideF (hsrc.bel (fun a c e => hlt a (by simp at e; exact e.1)) hXb)
  obtain ⟨c0, c1, c2, c3, c4, c5, c6, c7, c8⟩ := cells9 hXg
  have HXB := hideF hXb
  have HXG := hideF hXg
  have HXR := hideF hXr
  have HL := hideF hl
  have HLN : Hid ((ls.flatMap encI).length = n * 1) := by show _ = _; rw [flat_len encI 1 (fun _ => rfl), hl]
  clear hWg hWb hsrc hlt hXb hXg hXr hl
  go_enter Tryz.func15, Tryz.ntmps15
  go_upto_region 1 with fail
  rw [<- hW, <- hX]
  clear hW hX
  go_upto_region 3 with (at_builtin; refine wpList_append_src rfl (.tmp 4) (.tmp 6) 28 rfl X.heap.size 3 i0 (.int .i64 0) 1 8 Tryz.underlying28 hi hz0 hz1 hz2 rfl (by decide) (.slice none 0 0) 0 [] rfl (World.ownsRow_nil _ _ _ _) (.slice ad n k) n (ls.flatMap encI) rfl HSR.out HLN.out (encI_one _) (by unfold maxLen; omega) (by omega) (Nat.le_refl _) ?_; intro v1 w1 hown1 hgr1)
  have hb1 : Below X.heap.size X w1 := ⟨hgr1.os, hgr1.tape, hgr1.output, hgr1.size, fun k hk => hgr1.block k hk (by simp [Value.ownBlock])⟩
  rw [Nat.zero_add, List.nil_append] at hown1
  have HO1 := hideF hown1
  have hs1 := hb1.size
  have hg1 := (hb1.block w.heap.size (by omega)).trans HXG.out
  have HB1 := hideF hb1
  clear hown1 hgr1 c0 c1 c2 c3 c4 c5 c6 c7 c8 hb1
  go_upto_region 4 with (at_builtin; refine wpList_append_own _ rfl (.tmp 8) (.tmp 9) 28 rfl X.heap.size 3 i0 (.int .i64 0) 1 8 Tryz.underlying28 hi hz0 hz1 hz2 rfl (by decide) v1 n _ rfl (HO1.out.alloc _) ⟨w1.heap.size, 0, none⟩ 1 1 [.int .i64 70000] rfl rfl (fun j u hj => by match j, hj with | 0, hj => (simp at hj; subst hj; simp [Addr.add])) (by intro u hu; simp at hu; subst hu; rfl) (by unfold maxLen; omega) (by omega) (by simp; omega) ?_; intro v2 w2 hown2 hgr2 _)
  have hb2 : Below X.heap.size w1 w2 := (bel_alloc (Below.refl _ w1) _ |>.mono hs1).trans ⟨hgr2.os, hgr2.tape, hgr2.output, hgr2.size, fun k hk => hgr2.block k (by simp; omega) (fun e => by have := (HO1.out.lt k e.symm).1; omega)⟩
  obtain ⟨a2, cap2, rfl, hat2⟩ := own_view hown2
  obtain ⟨g2, rfl, hg2, _⟩ := hat2 0 (by omega)
  have hgB : X.heap.size <= g2 := (hown2.lt g2 rfl).1
  have hcap : n + 1 <= cap2 := by
    rcases hown2.2 with ⟨h1, h2⟩ | ⟨g', cap', cur', h1, h2, h3, h4, h5, h6, h7⟩
    . exact absurd h2 (by omega)
    . have : cap2 = cap' := by simp at h1; exact h1.2
      omega
  have HO2 := hideF hown2
  have hg3 := (hb2.block w.heap.size (by omega)).trans hg1
  have hr3 := (hb2.block (w.heap.size + 1) (by omega)).trans ((HB1.out.block _ (by omega)).trans HXR.out)
  have HB2 := hideF (HXB.out.trans ((HB1.out.mono HXB.out.size).trans (hb2.mono HXB.out.size)))
  have hs2 := hb2.size
  obtain ⟨c0, c1, c2, c3, c4, c5, c6, c7, c8⟩ := cells9 hg3
  obtain ⟨r0, r1, r2, r3, r4, r5, r6, r7, r8⟩ := cells9 hr3
  have fz : ∀ j, w2.frozen? ⟨w.heap.size, j, none⟩ = false := fun j => frozen_of_row _ _ _ _ _ hg3
  have fr : ∀ j, w2.frozen? ⟨w.heap.size + 1, j, none⟩ = false := fun j => frozen_of_row _ _ _ _ _ hr3
  have hcI : (n : Int) <= (cap2 : Int) := by omega
  clear hown2 hgr2 hat2 hb2 hg1 hg3 hr3
  go_wp2_with fail
  refine bodyPost_ret (v := .agg #[.int .i64 s0, .int .i64 s1, .int .i64 s2, .int .i64 s3, .int .i64 c, .int .i64 h, .int .i64 u, .slice (some ⟨g2, 0, none⟩) n cap2, .int .i64 b]) (by simp [results, Tryz.results15, go_sem, r0, r1, r2, r3, r4, r5, r6, r7, r8]) rfl ⟨g2, cap2, rfl, ?_, ?_⟩
  . rw [List.flatMap_append]
    have h0 := HO2.out
    have h1 := own_setlow h0 w.heap.size 7 (.slice (some ⟨g2, 0, none⟩) n cap2) (by omega)
    refine own_base (B := w.heap.size) ?_ (show w.heap.size <= X.heap.size by omega)
    exact own_setlow (own_setlow (own_setlow (own_setlow (own_setlow (own_setlow (own_setlow (own_setlow (own_setlow h1 _ _ _ (by omega)) _ _ _ (by omega)) _ _ _ (by omega)) _ _ _ (by omega)) _ _ _ (by omega)) _ _ _ (by omega)) _ _ _ (by omega)) _ _ _ (by omega)) _ _ _ (by omega)
  . have q0 : w.heap.size <= w.heap.size := Nat.le_refl _
    have q1 : w.heap.size <= w.heap.size + 1 := by omega
    exact (((((((((HB2.out.setCell q0 _).setCell q1 _).setCell q1 _).setCell q1 _).setCell q1 _).setCell q1 _).setCell q1 _).setCell q1 _).setCell q1 _).setCell q1 _
end Go.Proofs.YtcpldcojckhapaaGreat
