/-
  A region that draws its order, whatever the order: what holds of a slot once its operation has come up. No function of the program.
-/
import Derived.Test.YtcpldcojckhapaaB0
namespace Go.Proofs.Ytcpldcojckhapaa
open Go.RowKit

/-- How many operations have not come up. -/
def unl (n : Nat) (listed : Array Bool) : Nat := ((List.range n).filter fun i => !listed.getD i true).length
theorem ready_mem {md : Region.Mode} {ops : Array Oper} {listed : Array Bool} {i : Nat} (h : i ∈ Region.ready md ops listed) : i < ops.size ∧ listed.getD i true = false ∧ ∃ o, ops[i]? = some o ∧ ∀ e ∈ o.after, Region.binds md e = true → listed.getD e.on false = true := by
  simp only [Region.ready, List.mem_filter, List.mem_range, Bool.and_eq_true, Bool.not_eq_true'] at h
  obtain ⟨h1, h2, h3⟩ := h
  refine ⟨h1, h2, ops[i], Array.getElem?_eq_getElem h1, fun e he hb => ?_⟩
  rw [Array.getElem?_eq_getElem h1] at h3
  simp only [Option.map_some, Option.getD_some, Array.all_eq_true_iff_forall_mem, Bool.or_eq_true, Bool.not_eq_true'] at h3
  rcases h3 e he with h4 | h4
  · rw [hb] at h4; exact absurd h4 (by simp)
  · exact h4
theorem getD_set (l : Array Bool) (i j : Nat) (b c : Bool) (hi : i < l.size) : (l.setIfInBounds i b).getD j c = if i = j then b else l.getD j c := by
  simp only [Array.getD_eq_getD_getElem?, Array.getElem?_setIfInBounds]
  by_cases h : i = j
  · subst h; simp [hi]
  · simp [h]
theorem lt_of_getD {l : Array Bool} {i : Nat} (h : l.getD i true = false) : i < l.size := by
  rcases Nat.lt_or_ge i l.size with h1 | h1
  · exact h1
  · rw [Array.getD_eq_getD_getElem?, Array.getElem?_eq_none h1] at h; simp at h
theorem filter_lt {α : Type} (l : List α) (p q : α → Bool) (hpq : ∀ x ∈ l, q x = true → p x = true) (x : α) (hx : x ∈ l) (h1 : p x = true) (h2 : q x = false) : (l.filter q).length < (l.filter p).length := by
  induction l with
  | nil => exact absurd hx (by simp)
  | cons y l ih =>
    have hle : (l.filter q).length ≤ (l.filter p).length := by
      clear ih hx
      induction l with
      | nil => simp
      | cons z l ih2 =>
        have := ih2 (fun x hx => hpq x (by simp at hx ⊢; rcases hx with rfl | hx <;> simp [*]))
        by_cases hq : q z = true
        · have hp := hpq z (by simp) hq
          simp [hq, hp, this]
        · simp only [Bool.not_eq_true] at hq
          by_cases hp : p z = true
          · simp [hq, hp]; omega
          · simp only [Bool.not_eq_true] at hp
            simp [hq, hp, this]
    rcases List.mem_cons.1 hx with rfl | hx
    · simp [h1, h2]; omega
    · have := ih (fun x hx => hpq x (by simp [hx])) hx
      by_cases hq : q y = true
      · have hp := hpq y (by simp) hq
        simp [hq, hp, this]
      · simp only [Bool.not_eq_true] at hq
        by_cases hp : p y = true
        · simp [hq, hp]; omega
        · simp only [Bool.not_eq_true] at hp
          simp [hq, hp, this]
theorem unl_set (n : Nat) (listed : Array Bool) (i : Nat) (hi : i < n) (h : listed.getD i true = false) : unl n (listed.setIfInBounds i true) < unl n listed := by
  have hs := lt_of_getD h
  refine filter_lt _ _ _ (fun x _ hx => ?_) i (List.mem_range.2 hi) (by simp [h]) ?_
  · rw [getD_set _ _ _ _ _ hs] at hx
    split at hx
    · simp at hx
    · exact hx
  · rw [getD_set _ _ _ _ _ hs]; simp
/-- **Whatever order is drawn**: an invariant that each operation keeps as it comes up holds at the end. -/
theorem wpAny_inv {P : Program} {md : Region.Mode} {ops : Array Oper} {Q : Exit → Act → World → Prop} (I : Array Bool → Act → World → Prop)
    (hstep : ∀ listed a w i, I listed a w → i ∈ Region.ready md ops listed → wpOp P ops Q i (I (listed.setIfInBounds i true)) a w)
    (hend : ∀ listed a w, I listed a w → Region.ready md ops listed = [] → Q .normal a w) :
    ∀ fuel listed a w, unl ops.size listed ≤ fuel → I listed a w → wpAny P md ops Q fuel listed a w
  | 0, listed, a, w, hu, hI => by
    have hr : Region.ready md ops listed = [] := by
      apply List.eq_nil_iff_forall_not_mem.2
      intro i hi
      obtain ⟨h1, h2, _⟩ := ready_mem hi
      have := unl_set ops.size listed i h1 h2
      omega
    exact ⟨hr, hend _ _ _ hI hr⟩
  | fuel + 1, listed, a, w, hu, hI => by
    refine ⟨hend _ _ _ hI, fun i hi => wpOp_mono (fun a' w' h' => wpAny_inv I hstep hend fuel _ a' w' ?_ h') (hstep _ _ _ _ hI hi)⟩
    obtain ⟨h1, h2, _⟩ := ready_mem hi
    have := unl_set ops.size listed i h1 h2
    omega
end Go.Proofs.Ytcpldcojckhapaa
