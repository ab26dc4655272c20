/-
  The book of package latchlaw: the state while a list is recorded, and its two steps; no walk.
-/
import Derived.Test.YtcpldcojckhapaaBookK
set_option maxRecDepth 100000
namespace Go.Proofs.Ytcpldcojckhapaa
open Go.RowKit

theorem own_unique {w : World} {B : Nat} {e : TypeId} {size : Nat} {v : Value} {n : Nat} {xs ys : List Value} (h : w.ownsRow B e size v n xs) (h' : w.ownsRow B e size v n ys) : xs = ys := by
  rcases h.2 with ⟨hv, hn⟩ | ⟨g, cap, cur, hv, _, hh, _, _, _, ht⟩
  · have h1 := h.1
    have h2 := h'.1
    rw [hn, Nat.zero_mul] at h1 h2
    rw [List.eq_nil_of_length_eq_zero h1, List.eq_nil_of_length_eq_zero h2]
  · rcases h'.2 with ⟨hv', _⟩ | ⟨g', cap', cur', hv', _, hh', _, _, _, ht'⟩
    · rw [hv] at hv'; simp at hv'
    · rw [hv] at hv'
      simp only [Value.slice.injEq, Option.some.injEq, Addr.mk.injEq, and_true, true_and] at hv'
      obtain ⟨rfl, rfl⟩ := hv'
      rw [hh] at hh'
      simp only [Option.some.injEq, Obj.cells.injEq] at hh'
      rw [← ht, ← ht', hh'.1]

/-- The state: 'w' as it began; 'cs' the book's cells, by the value of the lists' field; 'mb' the mark's own block, where it has one. -/
structure MarkSt (w wr : World) (B kb mb : Nat) (cs : Value → Array Value) (mc : Option (Array Value)) (eO e : TypeId) (size : Nat) (mk : Nat → List Value) (Q : Nat → Prop) (N q : Nat) (vF vC vO v : Value) (m : Nat) : Prop where
  rec_ : Rec wr B eO e size mk Q N q vO v m
  book : wr.heap[kb]? = some (Obj.cells (cs vO) 35 (0, 0))
  mark : ∀ c, mc = some c → wr.heap[mb]? = some (Obj.cells c e (0, 0))
  foot : Foot w wr kb vF vC
  oB : ∀ g, vO.ownBlock = some g → vF.ownBlock = some g ∨ w.heap.size ≤ g
  vB : ∀ g, v.ownBlock = some g → vC.ownBlock = some g ∨ (w.heap.size ≤ g ∧ mb < g)

section
variable {w wr w3 : World} {B kb mb : Nat} {cs : Value → Array Value} {mc : Option (Array Value)} {eO e : TypeId} {size : Nat} {mk : Nat → List Value} {Q : Nat → Prop} {N q : Nat} {vF vC vO v : Value} {m : Nat}

/-- 'b.x = append(b.x, l)'. -/
theorem MarkSt.push (h : MarkSt w wr B kb mb cs mc eO e size mk Q N q vF vC vO v m) (fO : Nat) (hcs : ∀ a b, (cs a).setIfInBounds fO b = cs b) (hq : q < 4) (hN : N % 4 = 0) (hne : eO ≠ e) (h35 : eO ≠ 35) (h35' : e ≠ 35) (hm : m ≤ 2000000) (hkm : ∀ c, mc = some c → mb ≠ kb)
    {o : Obj} {vO' : Value} {Ls : List Value} (hLs : wr.ownsRow B eO 1 vO (N + q) Ls) (hgr : (wr.alloc o).grownBy w3 vO.ownBlock) (hfr : ∀ g', vO'.ownBlock = some g' → vO.ownBlock = some g' ∨ (wr.alloc o).heap.size ≤ g') (hown : w3.ownsRow B eO 1 vO' (N + q + 1) (Ls ++ [v])) :
    MarkSt w (w3.setCell ⟨kb, fO, none⟩ vO') B kb mb cs mc eO e size mk Q N (q + 1) vF vC vO' v m := by
  have hsz := h.foot.size
  have hOb := own_block (hLs.alloc o)
  have hkbX : (wr.alloc o).heap[kb]? = some (Obj.cells (cs vO) 35 (0, 0)) := (heap_alloc_old wr o (lt_of_block h.book)).trans h.book
  have hkb3 : w3.heap[kb]? = some (Obj.cells (cs vO) 35 (0, 0)) := (hgr.block kb (lt_of_block hkbX) (fun ee => by
    obtain ⟨c, hc⟩ := hOb kb ee.symm
    rw [hc] at hkbX
    simp at hkbX
    exact h35 hkbX.2)).trans hkbX
  have hrec : Rec w3 B eO e size mk Q N (q + 1) vO' v m := (h.rec_.alloc o).push hq hN hne hm hgr (fun Ls' hLs' => by
    rw [own_unique hLs' (hLs.alloc o)]; exact hown)
  refine ⟨hrec.setCell kb fO vO' _ 35 hkb3 (fun ee => h35 ee.symm) (fun ee => h35' ee.symm), ?_, ?_, ?_, ?_, h.vB⟩
  · rw [heap_setCell_same w3 kb fO _ 35 vO' hkb3, hcs]
  · intro c hc
    have hm1 := h.mark c hc
    have hmX : (wr.alloc o).heap[mb]? = some (Obj.cells c e (0, 0)) := (heap_alloc_old wr o (lt_of_block hm1)).trans hm1
    rw [heap_setCell_other _ _ _ _ (hkm c hc)]
    refine (hgr.block mb (lt_of_block hmX) (fun ee => ?_)).trans hmX
    obtain ⟨c', hc'⟩ := hOb mb ee.symm
    rw [hc'] at hmX
    simp at hmX
    exact hne hmX.2
  · exact ((h.foot.alloc o).grown hgr (fun g hg => (h.oB g hg).elim .inl (fun r => .inr (.inr r)))).setCell _ _ (.inl rfl)
  · intro g hg
    rcases hfr g hg with r | r
    · exact h.oB g r
    · right; simp at r; omega

/-- 'l = append(l, m)'. -/
theorem MarkSt.grow (h : MarkSt w wr B kb mb cs mc eO e size mk Q N q vF vC vO v m) (hne : eO ≠ e) (h35' : e ≠ 35) (hQ : ∀ g, w.heap.size ≤ g → Q g) (hmb : mb ≤ wr.heap.size) (hcm : ∀ c, mc = some c → vC.ownBlock ≠ some mb)
    {o : Obj} {v' : Value} (hgr : (wr.alloc o).grownBy w3 v.ownBlock) (hk : Keeps (wr.alloc o) w3 e v (m * size)) (hfr : ∀ g', v'.ownBlock = some g' → v.ownBlock = some g' ∨ (wr.alloc o).heap.size ≤ g') (hown : w3.ownsRow B e size v' (m + 1) (reps m (mk N) ++ mk N)) :
    MarkSt w w3 B kb mb cs mc eO e size mk Q N q vF vC vO v' (m + 1) := by
  have hsz := h.foot.size
  have hVb := own_block (h.rec_.list.alloc o)
  have hkbX : (wr.alloc o).heap[kb]? = some (Obj.cells (cs vO) 35 (0, 0)) := (heap_alloc_old wr o (lt_of_block h.book)).trans h.book
  refine ⟨(h.rec_.alloc o).grow hne hgr hk hfr (fun g hg => hQ g (by simp at hg; omega)) hown, ?_, ?_, ?_, h.oB, ?_⟩
  · exact (hgr.block kb (lt_of_block hkbX) (fun ee => by
      obtain ⟨c, hc⟩ := hVb kb ee.symm
      rw [hc] at hkbX
      simp at hkbX
      exact h35' hkbX.2)).trans hkbX
  · intro c hc
    have hm1 := h.mark c hc
    have hmX : (wr.alloc o).heap[mb]? = some (Obj.cells c e (0, 0)) := (heap_alloc_old wr o (lt_of_block hm1)).trans hm1
    refine (hgr.block mb (lt_of_block hmX) (fun ee => ?_)).trans hmX
    rcases h.vB mb ee.symm with r | r
    · exact hcm c hc r
    · omega
  · exact (h.foot.alloc o).grown hgr (fun g hg => (h.vB g hg).elim (fun r => .inr (.inl r)) (fun r => .inr (.inr r.1)))
  · intro g hg
    rcases hfr g hg with r | r
    · exact h.vB g r
    · right; simp at r; omega
/-- A field of the book, other than the lists', is set. -/
theorem MarkSt.field (h : MarkSt w wr B kb mb cs mc eO e size mk Q N q vF vC vO v m) (cs' : Value → Array Value) (f : Nat) (x : Value) (hcs : ∀ a, (cs a).setIfInBounds f x = cs' a) (h35 : eO ≠ 35) (h35' : e ≠ 35) (hkm : ∀ c, mc = some c → mb ≠ kb) :
    MarkSt w (wr.setCell ⟨kb, f, none⟩ x) B kb mb cs' mc eO e size mk Q N q vF vC vO v m := by
  refine ⟨h.rec_.setCell kb f x _ 35 h.book (fun ee => h35 ee.symm) (fun ee => h35' ee.symm), ?_, ?_, h.foot.setCell _ _ (.inl rfl), h.oB, h.vB⟩
  · rw [heap_setCell_same wr kb f _ 35 x h.book, hcs]
  · intro c hc
    rw [heap_setCell_other _ _ _ _ (hkm c hc)]
    exact h.mark c hc
end
end Go.Proofs.Ytcpldcojckhapaa
