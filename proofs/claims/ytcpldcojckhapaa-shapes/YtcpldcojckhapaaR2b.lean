/-
  A store over a store into the same cell.
-/
import Derived.Test.YtcpldcojckhapaaR2
namespace Go.Proofs.Ytcpldcojckhapaa
open Go.RowKit

theorem set_twice (w : World) (b o : Nat) (x y : Value) : (w.setCell ⟨b, o, none⟩ x).setCell ⟨b, o, none⟩ y = w.setCell ⟨b, o, none⟩ y := by
  have e : ∀ k : Nat, ((w.setCell ⟨b, o, none⟩ x).setCell ⟨b, o, none⟩ y).heap[k]? = (w.setCell ⟨b, o, none⟩ y).heap[k]? := fun k => by
    simp only [World.setCell, Array.getElem?_modify]
    by_cases hk : b = k
    · subst hk
      cases h : w.heap[b]? with
      | none => simp
      | some ob => cases ob <;> simp
    · simp [hk]
  have : ((w.setCell ⟨b, o, none⟩ x).setCell ⟨b, o, none⟩ y).heap = (w.setCell ⟨b, o, none⟩ y).heap := Array.ext_getElem? e
  unfold World.setCell at this ⊢
  simpa using this
theorem set_behind (w : World) (b o o' : Nat) (_ho : o ≠ o') (x z y : Value) : ((w.setCell ⟨b, o, none⟩ x).setCell ⟨b, o', none⟩ z).setCell ⟨b, o, none⟩ y = (w.setCell ⟨b, o', none⟩ z).setCell ⟨b, o, none⟩ y := by
  have e : ∀ k : Nat, (((w.setCell ⟨b, o, none⟩ x).setCell ⟨b, o', none⟩ z).setCell ⟨b, o, none⟩ y).heap[k]? = ((w.setCell ⟨b, o', none⟩ z).setCell ⟨b, o, none⟩ y).heap[k]? := fun k => by
    simp only [World.setCell, Array.getElem?_modify]
    by_cases hk : b = k
    · subst hk
      cases h : w.heap[b]? with
      | none => simp
      | some ob =>
        cases ob with
        | cells c t f =>
          simp
          apply Array.ext_getElem?
          intro q
          simp only [Array.getElem?_setIfInBounds, Array.size_setIfInBounds]
          by_cases q1 : o = q
          · simp [q1]
          · simp [q1]
        | _ => simp
    · simp [hk]
  have : (((w.setCell ⟨b, o, none⟩ x).setCell ⟨b, o', none⟩ z).setCell ⟨b, o, none⟩ y).heap = ((w.setCell ⟨b, o', none⟩ z).setCell ⟨b, o, none⟩ y).heap := Array.ext_getElem? e
  unfold World.setCell at this ⊢
  simpa using this
end Go.Proofs.Ytcpldcojckhapaa
