/-
  A region that draws its order: each operation writes a slot of its own, and what it writes holds whatever came up before. No function of the program.
-/
import Derived.Test.YtcpldcojckhapaaInv
namespace Go.Proofs.Ytcpldcojckhapaa
open Go.RowKit

theorem getD_rep (n i : Nat) : (Array.replicate n false).getD i false = false := by
  rw [Array.getD_eq_getD_getElem?, Array.getElem?_replicate]; split <;> rfl
theorem all_listed {ops : Array Oper} {listed : Array Bool} (hback : ∀ (i : Nat) (o : Oper), ops[i]? = some o → ∀ e ∈ o.after, e.on < i) (hsz : listed.size = ops.size) (hr : Region.ready .any ops listed = []) : ∀ i, i < ops.size → listed.getD i false = true := by
  intro i
  induction i using Nat.strongRecOn with
  | ind i ih =>
    intro hi
    rcases hb : listed.getD i false with _ | _
    · exfalso
      have hm : i ∈ Region.ready .any ops listed := by
        simp only [Region.ready, List.mem_filter, List.mem_range, Bool.and_eq_true, Bool.not_eq_true']
        refine ⟨hi, ?_, ?_⟩
        · have hlt : i < listed.size := by omega
          rw [Array.getD_eq_getD_getElem?, Array.getElem?_eq_getElem hlt] at hb ⊢
          exact hb
        · rw [Array.getElem?_eq_getElem hi]
          simp only [Option.map_some, Option.getD_some, Array.all_eq_true_iff_forall_mem, Bool.or_eq_true]
          intro e he
          have hlt := hback i _ (Array.getElem?_eq_getElem hi) e he
          exact .inr (ih e.on hlt (by omega))
      rw [hr] at hm
      exact absurd hm (by simp)
    · rfl
theorem unl_rep (n : Nat) : unl n (Array.replicate n false) ≤ n := by
  unfold unl
  exact Nat.le_trans (List.length_filter_le _ _) (by simp)

theorem wpAny_slots {P : Program} {ops : Array Oper} {Q : Exit → Act → World → Prop} (dst : Nat → Nat)
    (hinj : ∀ i j, i < ops.size → j < ops.size → dst i = dst j → i = j)
    (hdst : ∀ (i : Nat) (o : Oper), ops[i]? = some o → o.dst = some (dst i) ∧ o.guard = none)
    (hback : ∀ (i : Nat) (o : Oper), ops[i]? = some o → ∀ e ∈ o.after, e.on < i)
    (a0 : Act) (hdT : ∀ i, i < ops.size → dst i < a0.tmps.size)
    (S : Nat → Value → World → Prop) (C : World → Prop) (hC : ∀ w w', C w → Below w.heap.size w w' → C w') (hkeep : ∀ i v w w', C w → Below w.heap.size w w' → S i v w → S i v w')
    (hop : ∀ (i : Nat) (o : Oper), ops[i]? = some o → ∀ (a : Act) w, (∀ k, (∀ j, j < ops.size → dst j ≠ k) → a.tmps[k]? = a0.tmps[k]?) → C w → (∀ e ∈ o.after, Region.binds .any e = true → ∃ v, a.tmps[dst e.on]? = some v ∧ S e.on v w) →
      o.wp P a w (fun a' w' => ∃ v, a' = a.put o.dst v ∧ S i v w' ∧ Below w.heap.size w w') Q)
    (hend : ∀ (a : Act) w, a.defers = a0.defers → a.tmps.size = a0.tmps.size → (∀ k, (∀ j, j < ops.size → dst j ≠ k) → a.tmps[k]? = a0.tmps[k]?) → (∀ i, i < ops.size → ∃ v, a.tmps[dst i]? = some v ∧ S i v w) → C w → Q .normal a w)
    (w : World) (hw : C w) : wpAny P .any ops Q ops.size (Array.replicate ops.size false) a0 w := by
  refine wpAny_inv (fun listed a w => listed.size = ops.size ∧ a.defers = a0.defers ∧ a.tmps.size = a0.tmps.size ∧ (∀ k, (∀ j, j < ops.size → dst j ≠ k) → a.tmps[k]? = a0.tmps[k]?) ∧ (∀ i, i < ops.size → listed.getD i false = true → ∃ v, a.tmps[dst i]? = some v ∧ S i v w) ∧ C w) ?_ ?_ ops.size _ a0 w (unl_rep _) ⟨by simp, rfl, rfl, fun _ _ => rfl, fun i _ h => by rw [getD_rep] at h; exact absurd h (by simp), hw⟩
  · rintro listed a w i ⟨hls, hd, hts, hsame, hS, hCw⟩ hi
    obtain ⟨h1, h2, o, ho, hdep⟩ := ready_mem hi
    obtain ⟨hod, hog⟩ := hdst i o ho
    have hstep := hop i o ho a w hsame hCw (fun e he hb => hS e.on (by have := hback i o ho e he; omega) (hdep e he hb))
    unfold wpOp
    rw [ho]
    simp only
    have hw' : Region.wanted o (yielded ops a.tmps) = true := by simp [Region.wanted, hog]
    rw [if_pos hw']
    refine .inl (Oper.wp_mono ?_ hstep)
    rintro a' w' ⟨v, rfl, hSv, hbel⟩
    rw [hod]
    have hlt : dst i < a.tmps.size := by rw [hts]; exact hdT i h1
    refine ⟨by simpa using hls, hd, by simpa [Act.put] using hts, fun k hk => ?_, fun j hj hlj => ?_, hC _ _ hCw hbel⟩
    · rw [← hsame k hk]
      simp only [Act.put, Array.getElem?_setIfInBounds]
      rw [if_neg (hk i h1)]
    · rw [getD_set _ _ _ _ _ (by omega)] at hlj
      by_cases hij : i = j
      · subst hij
        exact ⟨v, by simp [Act.put, hlt], hSv⟩
      · rw [if_neg hij] at hlj
        obtain ⟨u, hu, hSu⟩ := hS j hj hlj
        refine ⟨u, ?_, hkeep _ _ _ _ hCw hbel hSu⟩
        simp only [Act.put, Array.getElem?_setIfInBounds]
        rw [if_neg (fun e => hij (hinj i j h1 hj e))]
        exact hu
  · rintro listed a w ⟨hls, hd, hts, hsame, hS, hCw⟩ hr
    have hall := all_listed hback hls hr
    exact hend a w hd hts hsame (fun i hi => hS i hi (hall i hi)) hCw
end Go.Proofs.Ytcpldcojckhapaa
