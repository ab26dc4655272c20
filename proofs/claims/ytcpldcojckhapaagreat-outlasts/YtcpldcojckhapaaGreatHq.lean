/-
  The answers that wait: Len, Less, Swap and Pop.
-/
import Derived.Test.YtcpldcojckhapaaGreatHp
set_option maxRecDepth 100000
namespace Go.Proofs.YtcpldcojckhapaaGreat
open Go.RowKit

theorem own_set {w : World} {B : Nat} {e : TypeId} {size n g p : Nat} {v u : Value} {xs : List Value} (h : w.ownsRow B e size v n xs) (hg : v.ownBlock = some g) (_hp : p < n * size) : (w.setCell ⟨g, p, none⟩ u).ownsRow B e size v n (xs.set p u) := by
  refine ⟨by rw [List.length_set]; exact h.1, ?_⟩
  rcases h.2 with ⟨rfl, _⟩ | ⟨g', cap, cur, rfl, hb, hh, h1, h2, h3, h4⟩
  · simp [Value.ownBlock] at hg
  · obtain rfl : g' = g := by simpa [Value.ownBlock] using hg
    refine .inr ⟨g', cap, cur.setIfInBounds p u, rfl, hb, heap_setCell_same w g' p cur e u hh, h1, h2, by rw [Array.size_setIfInBounds]; exact h3, ?_⟩
    rw [Array.toList_setIfInBounds, List.take_set, h4]
theorem encF_put (l : List (Int × Int × ByteArray)) (x : Int × Int × ByteArray) : ∀ i, i < l.length → (((l.flatMap encF).set (i * 3) (.int .i64 x.1)).set (i * 3 + 1) (.int .i64 x.2.1)).set (i * 3 + 2) (.string x.2.2) = (l.set i x).flatMap encF := by
  induction l with
  | nil => intro i hi; exact absurd hi (Nat.not_lt_zero _)
  | cons y l ih =>
    intro i hi
    cases i with
    | zero => simp [encF]
    | succ i =>
      have := ih i (by simpa using hi)
      rw [List.flatMap_cons, show (i + 1) * 3 = (i * 3) + 1 + 1 + 1 by omega, List.set_cons_succ, List.flatMap_cons]
      unfold encF at this ⊢
      simp only [List.cons_append, List.nil_append, List.set_cons_succ]
      rw [← this]
theorem own_put {w : World} {B g i n : Nat} {v : Value} {l : List (Int × Int × ByteArray)} (x : Int × Int × ByteArray) (h : w.ownsRow B 163 3 v n (l.flatMap encF)) (hn : n = l.length) (hg : v.ownBlock = some g) (hi : i < l.length) :
    (((w.setCell ⟨g, i * 3, none⟩ (.int .i64 x.1)).setCell ⟨g, i * 3 + 1, none⟩ (.int .i64 x.2.1)).setCell ⟨g, i * 3 + 2, none⟩ (.string x.2.2)).ownsRow B 163 3 v n ((l.set i x).flatMap encF) := by
  rw [← encF_put l x i hi]
  exact own_set (own_set (own_set h hg (by omega)) hg (by omega)) hg (by omega)
/-- The cells of an answer that waits. -/
theorem own_ans {w : World} {B : Nat} {v : Value} {l : List (Int × Int × ByteArray)} (h : w.ownsRow B 163 3 v l.length (l.flatMap encF)) {i : Nat} {x : Int × Int × ByteArray} (hx : l[i]? = some x) :
    ∃ g c, v = .slice (some ⟨g, 0, none⟩) l.length c ∧ g < w.heap.size ∧ w.cell? ⟨g, i * 3, none⟩ = some (.int .i64 x.1) ∧ w.cell? ⟨g, i * 3 + 1, none⟩ = some (.int .i64 x.2.1) ∧ w.cell? ⟨g, i * 3 + 2, none⟩ = some (.string x.2.2) := by
  obtain ⟨a, c, rfl, hat⟩ := own_view h
  have hi : i < l.length := (List.getElem?_eq_some_iff.1 hx).1
  have hxe : l[i] = x := (List.getElem?_eq_some_iff.1 hx).2
  obtain ⟨g, rfl, hg, hc⟩ := hat i hi
  refine ⟨g, c, rfl, hg, ?_, ?_, ?_⟩
  · have := flat_gen encF 3 (fun _ => rfl) l i 0 hi (by omega)
    rw [Nat.add_zero] at this
    rw [hc _ (by omega), this, hxe]; rfl
  · rw [hc _ (by omega), flat_gen encF 3 (fun _ => rfl) l i 1 hi (by omega), hxe]; rfl
  · rw [hc _ (by omega), flat_gen encF 3 (fun _ => rfl) l i 2 hi (by omega), hxe]; rfl
theorem own_fz {w : World} {B g c n : Nat} {e : TypeId} {size : Nat} {xs : List Value} (h : w.ownsRow B e size (.slice (some ⟨g, 0, none⟩) n c) n xs) (j : Nat) : w.frozen? ⟨g, j, none⟩ = false := by
  obtain ⟨cur, hc⟩ := own_block h g rfl
  exact frozen_of_row _ _ _ _ _ hc

set_option maxRecDepth 100000 in
set_option maxHeartbeats 1000000 in
theorem hlen_any (a : Option Addr) (n c : Nat) (w : World) : Calls Tryz.prog 88 #[.slice a n c] w fun e w' => e = .returned (.int .i64 (n : Nat)) ∧ w' = w := by
  go_enter Tryz.func88, Tryz.ntmps88
  go_wp2
  go_ret
  exact ⟨rfl, rfl⟩
set_option maxRecDepth 100000 in
set_option maxHeartbeats 1000000 in
theorem hless_any (B i j : Nat) (v : Value) (l : List (Int × Int × ByteArray)) (x y : Int × Int × ByteArray) (b : Bool) (w : World) (h : w.ownsRow B 163 3 v l.length (l.flatMap encF)) (hx : l[i]? = some x) (hy : l[j]? = some y) (hb : decide (x.1 < y.1) = b) :
    Calls Tryz.prog 194 #[v, .int .i64 (i : Nat), .int .i64 (j : Nat)] w fun e w' => e = .returned (.bool b) ∧ ∃ k, w' = w.drewN k := by
  obtain ⟨g, c, rfl, hg, a0, _, _⟩ := own_ans h hx
  obtain ⟨g', c', he, _, b0, _, _⟩ := own_ans h hy
  simp only [Value.slice.injEq, Option.some.injEq, Addr.mk.injEq, true_and, and_true] at he
  obtain ⟨rfl, rfl⟩ := he
  have hi : i < l.length := (List.getElem?_eq_some_iff.1 hx).1
  have hj : j < l.length := (List.getElem?_eq_some_iff.1 hy).1
  have hi' : (i : Int) < (l.length : Int) := by omega
  have hj' : (j : Int) < (l.length : Int) := by omega
  have HB := hideF hb
  clear h hx hy hb
  go_enter Tryz.func194, Tryz.ntmps194
  go_wp2_with fail
  go_quiet (fail)
  go_wp2
  go_ret
  exact ⟨rbool HB.out, _, rfl⟩

theorem own_drew {W : World} {B : Nat} {e : TypeId} {size n : Nat} {v : Value} {xs : List Value} (h : W.ownsRow B e size v n xs) : W.drew.ownsRow B e size v n xs := own_same h (fun _ _ => rfl)
theorem Chg1.drew {g : Nat} {a W : World} (h : Chg1 g a W) : Chg1 g a W.drew := h.drewN 1
/-- What is stored where it stands already turns nothing. -/
theorem set_idle {w : World} {g p : Nat} {cur : Array Value} {t : TypeId} {v : Value} (h : w.heap[g]? = some (.cells cur t (0, 0))) (hc : w.cell? ⟨g, p, none⟩ = some v) : w.setCell ⟨g, p, none⟩ v = w := by
  have hp : cur[p]? = some v := by rw [cell_of_row _ _ _ _ _ _ h] at hc; exact hc
  have hcur : cur.setIfInBounds p v = cur := by
    apply Array.ext
    · simp
    · intro k h1 h2
      rw [Array.getElem_setIfInBounds]
      · split
        · rename_i e; subst e
          exact ((Array.getElem?_eq_some_iff.1 hp).2).symm
        · rfl
  have he : (w.setCell ⟨g, p, none⟩ v).heap = w.heap := by
    apply Array.ext_getElem?
    intro k
    by_cases hk : k = g
    · subst hk; rw [heap_setCell_same w k p cur t v h, hcur, h]
    · exact heap_setCell_other w _ _ v (by simpa using hk)
  have e : w.setCell ⟨g, p, none⟩ v = { w with heap := (w.setCell ⟨g, p, none⟩ v).heap } := rfl
  rw [e, he]
theorem set_far (w : World) (b o o1 o2 : Nat) (_h1 : o ≠ o1) (_h2 : o ≠ o2) (x z1 z2 y : Value) : (((w.setCell ⟨b, o, none⟩ x).setCell ⟨b, o1, none⟩ z1).setCell ⟨b, o2, none⟩ z2).setCell ⟨b, o, none⟩ y = ((w.setCell ⟨b, o1, none⟩ z1).setCell ⟨b, o2, none⟩ z2).setCell ⟨b, o, none⟩ y := by
  have he : ((((w.setCell ⟨b, o, none⟩ x).setCell ⟨b, o1, none⟩ z1).setCell ⟨b, o2, none⟩ z2).setCell ⟨b, o, none⟩ y).heap = (((w.setCell ⟨b, o1, none⟩ z1).setCell ⟨b, o2, none⟩ z2).setCell ⟨b, o, none⟩ y).heap := by
    apply Array.ext_getElem?
    intro k
    simp only [World.setCell, Array.getElem?_modify]
    by_cases hk : b = k
    · subst hk
      simp only [if_true]
      cases hw : w.heap[b]? with
      | none => simp
      | some ob =>
        cases ob <;> simp
        apply Array.ext_getElem?
        intro q
        simp only [Array.getElem?_setIfInBounds, Array.size_setIfInBounds]
        by_cases hq : o = q
        · subst hq; simp
        · simp [hq]
    · simp [hk]
  have e : ∀ W : World, (((w.setCell ⟨b, o, none⟩ x).setCell ⟨b, o1, none⟩ z1).setCell ⟨b, o2, none⟩ z2).setCell ⟨b, o, none⟩ y = { w with heap := ((((w.setCell ⟨b, o, none⟩ x).setCell ⟨b, o1, none⟩ z1).setCell ⟨b, o2, none⟩ z2).setCell ⟨b, o, none⟩ y).heap } := fun _ => rfl
  rw [e w, he]
  rfl
theorem chg_own3 {w : World} {g p : Nat} {a b c : Value} (h : Chg1 g w w) : Chg1 g w (((w.setCell ⟨g, p, none⟩ a).setCell ⟨g, p + 1, none⟩ b).setCell ⟨g, p + 2, none⟩ c) := ((h.setCell _ _).setCell _ _).setCell _ _
set_option maxRecDepth 100000 in
set_option maxHeartbeats 1000000 in
theorem hswap_ne (B i j g c : Nat) (l : List (Int × Int × ByteArray)) (x y : Int × Int × ByteArray) (w : World) (h : w.ownsRow B 163 3 (.slice (some ⟨g, 0, none⟩) l.length c) l.length (l.flatMap encF)) (hx : l[i]? = some x) (hy : l[j]? = some y) (hne : i ≠ j) :
    Calls Tryz.prog 195 #[.slice (some ⟨g, 0, none⟩) l.length c, .int .i64 (i : Nat), .int .i64 (j : Nat)] w fun e w' => e = .returned (.tuple #[]) ∧ w'.ownsRow B 163 3 (.slice (some ⟨g, 0, none⟩) l.length c) l.length (((l.set i y).set j x).flatMap encF) ∧ Chg1 g w w' := by
  obtain ⟨g1, c1, he, _, a0, a1, a2⟩ := own_ans h hx
  obtain ⟨g', c', he2, _, b0, b1, b2⟩ := own_ans h hy
  simp only [Value.slice.injEq, Option.some.injEq, Addr.mk.injEq, true_and, and_true] at he he2
  obtain ⟨rfl, rfl⟩ := he
  obtain ⟨rfl, rfl⟩ := he2
  have hi : i < l.length := (List.getElem?_eq_some_iff.1 hx).1
  have hj : j < l.length := (List.getElem?_eq_some_iff.1 hy).1
  have hi' : (i : Int) < (l.length : Int) := by omega
  have hj' : (j : Int) < (l.length : Int) := by omega
  have fz := own_fz h
  have HH := hideF h
  have n00 : j * 3 ≠ i * 3 := by omega
  have n01 : j * 3 ≠ i * 3 + 1 := by omega
  have n02 : j * 3 ≠ i * 3 + 2 := by omega
  have n10 : j * 3 + 1 ≠ i * 3 := by omega
  have n11 : j * 3 + 1 ≠ i * 3 + 1 := by omega
  have n12 : j * 3 + 1 ≠ i * 3 + 2 := by omega
  have n20 : j * 3 + 2 ≠ i * 3 := by omega
  have n21 : j * 3 + 2 ≠ i * 3 + 1 := by omega
  have n22 : j * 3 + 2 ≠ i * 3 + 2 := by omega
  clear h hx hy
  go_enter Tryz.func195, Tryz.ntmps195
  go_wp2_with fail
  go_region
  go_end0
  refine ⟨rfl, ?_, ?_⟩
  · have h1 := own_put y HH.out rfl rfl hi
    have h2 := own_put x (l := l.set i y) h1 (by simp) rfl (by simpa using hj)
    exact own_drew h2
  · exact (((((((Chg1.refl g w).setCell _ _).setCell _ _).setCell _ _).setCell _ _).setCell _ _).setCell _ _).drew
set_option maxRecDepth 100000 in
set_option maxHeartbeats 1000000 in
theorem hswap_same (B g c : Nat) (l : List (Int × Int × ByteArray)) (x : Int × Int × ByteArray) (w : World) (h : w.ownsRow B 163 3 (.slice (some ⟨g, 0, none⟩) l.length c) l.length (l.flatMap encF)) (hx : l[0]? = some x) :
    Calls Tryz.prog 195 #[.slice (some ⟨g, 0, none⟩) l.length c, .int .i64 0, .int .i64 0] w fun e w' => e = .returned (.tuple #[]) ∧ w'.ownsRow B 163 3 (.slice (some ⟨g, 0, none⟩) l.length c) l.length (l.flatMap encF) ∧ Chg1 g w w' := by
  obtain ⟨g1, c1, he, _, a0, a1, a2⟩ := own_ans h hx
  simp only [Value.slice.injEq, Option.some.injEq, Addr.mk.injEq, true_and, and_true] at he
  obtain ⟨rfl, rfl⟩ := he
  have hi : 0 < l.length := (List.getElem?_eq_some_iff.1 hx).1
  have hi' : (0 : Int) < (l.length : Int) := by omega
  have fz := own_fz h
  have HH := hideF h
  obtain ⟨cur, hcur⟩ := own_block h g rfl
  rw [show 0 * 3 = 0 from rfl] at a0 a1 a2
  have HI : Hid (w.setCell ⟨g, 0, none⟩ (.int .i64 x.1) = w ∧ w.setCell ⟨g, 1, none⟩ (.int .i64 x.2.1) = w ∧ w.setCell ⟨g, 2, none⟩ (.string x.2.2) = w) := ⟨set_idle hcur a0, set_idle hcur a1, set_idle hcur a2⟩
  have q0 : ∀ (W : World) (x1 x2 x3 x4 : Value), (((W.setCell ⟨g, 0, none⟩ x1).setCell ⟨g, 1, none⟩ x2).setCell ⟨g, 2, none⟩ x3).setCell ⟨g, 0, none⟩ x4 = ((W.setCell ⟨g, 1, none⟩ x2).setCell ⟨g, 2, none⟩ x3).setCell ⟨g, 0, none⟩ x4 := fun W x1 x2 x3 x4 => set_far W g 0 1 2 (by omega) (by omega) x1 x2 x3 x4
  have q1 : ∀ (W : World) (x1 x2 x3 x4 : Value), (((W.setCell ⟨g, 1, none⟩ x1).setCell ⟨g, 2, none⟩ x2).setCell ⟨g, 0, none⟩ x3).setCell ⟨g, 1, none⟩ x4 = ((W.setCell ⟨g, 2, none⟩ x2).setCell ⟨g, 0, none⟩ x3).setCell ⟨g, 1, none⟩ x4 := fun W x1 x2 x3 x4 => set_far W g 1 2 0 (by omega) (by omega) x1 x2 x3 x4
  have q2 : ∀ (W : World) (x1 x2 x3 x4 : Value), (((W.setCell ⟨g, 2, none⟩ x1).setCell ⟨g, 0, none⟩ x2).setCell ⟨g, 1, none⟩ x3).setCell ⟨g, 2, none⟩ x4 = ((W.setCell ⟨g, 0, none⟩ x2).setCell ⟨g, 1, none⟩ x3).setCell ⟨g, 2, none⟩ x4 := fun W x1 x2 x3 x4 => set_far W g 2 0 1 (by omega) (by omega) x1 x2 x3 x4
  clear h hx hcur
  go_enter Tryz.func195, Tryz.ntmps195
  go_wp2_with fail
  go_region
  go_end0
  rw [HI.out.1, HI.out.2.1, HI.out.2.2]
  exact ⟨rfl, own_drew HH.out, (Chg1.refl g w).drew⟩

end Go.Proofs.YtcpldcojckhapaaGreat
