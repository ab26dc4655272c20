/-
  The book of package latchlaw: what marking does to its memory, step by step; no walk.
-/
import Derived.Test.YtcpldcojckhapaaBookV
set_option maxRecDepth 100000
namespace Go.Proofs.Ytcpldcojckhapaa
open Go.RowKit

def reps (m : Nat) (cs : List Value) : List Value := (List.replicate m cs).flatten
theorem reps_succ (m : Nat) (cs : List Value) : reps (m + 1) cs = reps m cs ++ cs := by
  unfold reps; rw [List.replicate_succ', List.flatten_append]; simp
theorem reps_len (m size : Nat) (cs : List Value) (h : cs.length = size) : (reps m cs).length = m * size := by
  unfold reps
  induction m with
  | zero => simp
  | succ m ih => rw [List.replicate_succ, List.flatten_cons, List.length_append, ih, h, Nat.succ_mul]; omega

/-- Only these blocks may have turned: kb, and those of two slices. -/
structure Foot (w w' : World) (kb : Nat) (vO vC : Value) : Prop where
  os : w'.os = w.os
  tape : w'.tape = w.tape
  output : w'.output = w.output
  size : w.heap.size ≤ w'.heap.size
  block : ∀ k, k < w.heap.size → k ≠ kb → vO.ownBlock ≠ some k → vC.ownBlock ≠ some k → w'.heap[k]? = w.heap[k]?

theorem Foot.refl (w : World) (kb : Nat) (vO vC : Value) : Foot w w kb vO vC := ⟨rfl, rfl, rfl, Nat.le_refl _, fun _ _ _ _ _ => rfl⟩
theorem Foot.trans {a b c : World} {kb : Nat} {vO vC : Value} (h : Foot a b kb vO vC) (os : c.os = b.os) (tape : c.tape = b.tape) (output : c.output = b.output) (size : b.heap.size ≤ c.heap.size)
    (hb : ∀ k, k < a.heap.size → k ≠ kb → vO.ownBlock ≠ some k → vC.ownBlock ≠ some k → c.heap[k]? = b.heap[k]?) : Foot a c kb vO vC :=
  ⟨os.trans h.os, tape.trans h.tape, output.trans h.output, Nat.le_trans h.size size, fun k h1 h2 h3 h4 => (hb k h1 h2 h3 h4).trans (h.block k h1 h2 h3 h4)⟩
theorem Foot.below {w w' : World} {kb B : Nat} {vO vC : Value} (h : Foot w w' kb vO vC) (hk : B ≤ kb) (hO : ∀ g, vO.ownBlock = some g → B ≤ g) (hC : ∀ g, vC.ownBlock = some g → B ≤ g) (hB : B ≤ w.heap.size) : Below B w w' :=
  ⟨h.os, h.tape, h.output, h.size, fun k hk' => h.block k (by omega) (by omega) (fun e => by have := hO k e; omega) (fun e => by have := hC k e; omega)⟩
theorem Foot.setCell {w w' : World} {kb : Nat} {vO vC : Value} (h : Foot w w' kb vO vC) (a : Addr) (v : Value) (ha : a.block = kb ∨ vO.ownBlock = some a.block ∨ vC.ownBlock = some a.block ∨ w.heap.size ≤ a.block) : Foot w (w'.setCell a v) kb vO vC :=
  h.trans rfl rfl rfl (by simp) (fun k h1 h2 h3 h4 => heap_setCell_other _ _ _ _ (fun e => by
    subst e
    rcases ha with r | r | r | r
    · exact h2 r
    · exact h3 r
    · exact h4 r
    · omega))
theorem Foot.alloc {w w' : World} {kb : Nat} {vO vC : Value} (h : Foot w w' kb vO vC) (o : Obj) : Foot w (w'.alloc o) kb vO vC :=
  h.trans rfl rfl rfl (by simp) (fun k h1 _ _ _ => heap_alloc_old w' o (by have := h.size; omega))
theorem Foot.grown {w w' w'' : World} {kb : Nat} {vO vC v : Value} (h : Foot w w' kb vO vC) (hg : w'.grownBy w'' v.ownBlock) (hv : ∀ g, v.ownBlock = some g → vO.ownBlock = some g ∨ vC.ownBlock = some g ∨ w.heap.size ≤ g) : Foot w w'' kb vO vC :=
  h.trans hg.os hg.tape hg.output hg.size (fun k h1 _ h3 h4 => hg.block k (by have := h.size; omega) (fun e => by
    rcases hv k e.symm with r | r | r
    · exact h3 r
    · exact h4 r
    · omega))

/-- The lists of one kind, and where they lie. -/
def ListsIn (w : World) (B : Nat) (eO e : TypeId) (size : Nat) (mk : Nat → List Value) (vO : Value) (N : Nat) (Q : Nat → Prop) : Prop :=
  ∃ Ls : List Value, w.ownsRow B eO 1 vO N Ls ∧ ∀ (i : Nat) (u : Value), Ls[i]? = some u → ∃ k, k ≤ 2000000 ∧ Reads w B e size u k (reps k (mk (i / 4 * 4))) ∧ ∀ g, u.ownBlock = some g → Q g

/-- The state while one list is recorded: 'vO' the lists of its kind, N + q of them; 'v' the list as it has grown, m long; all lie in Q. -/
structure Rec (w : World) (B : Nat) (eO e : TypeId) (size : Nat) (mk : Nat → List Value) (Q : Nat → Prop) (N q : Nat) (vO : Value) (v : Value) (m : Nat) : Prop where
  outer : ∃ Ls : List Value, w.ownsRow B eO 1 vO (N + q) Ls ∧ ∀ (i : Nat) (u : Value), Ls[i]? = some u → ∃ k, k ≤ 2000000 ∧ Reads w B e size u k (reps k (mk (i / 4 * 4))) ∧ (∀ g, u.ownBlock = some g → Q g) ∧ (∀ g, u.ownBlock = some g → v.ownBlock = some g → k ≤ m)
  list : w.ownsRow B e size v m (reps m (mk N))
  inQ : ∀ g, v.ownBlock = some g → Q g

section
variable {w w' : World} {B : Nat} {eO e : TypeId} {size : Nat} {mk : Nat → List Value} {Q : Nat → Prop} {N q : Nat} {vO v : Value} {m : Nat}

theorem ListsIn.lists (h : ListsIn w B eO e size mk vO N Q) : Lists w B eO e size mk vO N := by
  obtain ⟨Ls, h1, h2⟩ := h
  exact ⟨Ls, h1, fun i u hu => by obtain ⟨k, r1, r2, _⟩ := h2 i u hu; exact ⟨k, r1, r2⟩⟩
theorem ListsIn.weaken {Q' : Nat → Prop} (h : ListsIn w B eO e size mk vO N Q) (hQ : ∀ g, g < w.heap.size → Q g → Q' g) : ListsIn w B eO e size mk vO N Q' := by
  obtain ⟨Ls, h1, h2⟩ := h
  exact ⟨Ls, h1, fun i u hu => by obtain ⟨k, r1, r2, r3⟩ := h2 i u hu; exact ⟨k, r1, r2, fun g hg => hQ g (r2.lt g hg).2 (r3 g hg)⟩⟩
theorem ListsIn.carry (h : ListsIn w B eO e size mk vO N Q) (hs : ∀ (k : Nat) (cur : Array Value) (t : TypeId), w.heap[k]? = some (Obj.cells cur t (0, 0)) → (vO.ownBlock = some k ∨ Q k) → (t = eO ∨ t = e) → w'.heap[k]? = w.heap[k]?) : ListsIn w' B eO e size mk vO N Q := by
  obtain ⟨Ls, h1, h2⟩ := h
  refine ⟨Ls, own_same h1 (fun g hg => ?_), fun i u hu => ?_⟩
  · obtain ⟨cur, hc⟩ := own_block h1 g hg
    exact hs g cur eO hc (.inl hg) (.inl rfl)
  · obtain ⟨k, r1, r2, r3⟩ := h2 i u hu
    refine ⟨k, r1, r2.same (fun g hg => ?_), r3⟩
    obtain ⟨cur, hc⟩ := r2.block g hg
    exact hs g cur e hc (.inr (r3 g hg)) (.inr rfl)
theorem ListsIn.below (h : ListsIn w B eO e size mk vO N Q) (hb : Below w.heap.size w w') : ListsIn w' B eO e size mk vO N Q :=
  h.carry (fun k _ _ hc _ _ => hb.block k (lt_of_block hc))

/-- What is neither of the list's kind nor of the lists' may turn. -/
theorem Rec.carry (h : Rec w B eO e size mk Q N q vO v m) (hs : ∀ (k : Nat) (cur : Array Value) (t : TypeId), w.heap[k]? = some (Obj.cells cur t (0, 0)) → (t = eO ∨ t = e) → w'.heap[k]? = w.heap[k]?) : Rec w' B eO e size mk Q N q vO v m := by
  obtain ⟨⟨Ls, h1, h2⟩, h3, h5⟩ := h
  refine ⟨⟨Ls, own_same h1 (fun g hg => ?_), fun i u hu => ?_⟩, own_same h3 (fun g hg => ?_), h5⟩
  · obtain ⟨cur, hc⟩ := own_block h1 g hg
    exact hs g cur eO hc (.inl rfl)
  · obtain ⟨k, r1, r2, r3⟩ := h2 i u hu
    refine ⟨k, r1, r2.same (fun g hg => ?_), r3⟩
    obtain ⟨cur, hc⟩ := r2.block g hg
    exact hs g cur e hc (.inr rfl)
  · obtain ⟨cur, hc⟩ := own_block h3 g hg
    exact hs g cur e hc (.inr rfl)
theorem Rec.alloc (h : Rec w B eO e size mk Q N q vO v m) (o : Obj) : Rec (w.alloc o) B eO e size mk Q N q vO v m :=
  h.carry (fun _ _ _ hc _ => heap_alloc_old w o (lt_of_block hc))
/-- A store into a block of another type. -/
theorem Rec.setCell (h : Rec w B eO e size mk Q N q vO v m) (kb i : Nat) (x : Value) (cur : Array Value) (t : TypeId) (hk : w.heap[kb]? = some (Obj.cells cur t (0, 0))) (h1 : t ≠ eO) (h2 : t ≠ e) : Rec (w.setCell ⟨kb, i, none⟩ x) B eO e size mk Q N q vO v m :=
  h.carry (fun k c t' hc ht => heap_setCell_other _ _ _ _ (fun ee => by
    have ee : k = kb := ee
    rw [ee, hk] at hc
    simp only [Option.some.injEq, Obj.cells.injEq] at hc
    rcases ht with r | r
    · exact h1 (hc.2.1.trans r)
    · exact h2 (hc.2.1.trans r)))
/-- The list is laid into the lists. -/
theorem Rec.push (h : Rec w B eO e size mk Q N q vO v m) (hq : q < 4) (hN : N % 4 = 0) (hne : eO ≠ e) (hm : m ≤ 2000000) {vO' : Value} (hgr : w.grownBy w' vO.ownBlock) (hown : ∀ Ls, w.ownsRow B eO 1 vO (N + q) Ls → w'.ownsRow B eO 1 vO' (N + q + 1) (Ls ++ [v])) :
    Rec w' B eO e size mk Q N (q + 1) vO' v m := by
  obtain ⟨⟨Ls, h1, h2⟩, h3, h5⟩ := h
  have hblk : ∀ (g : Nat) (cur : Array Value), w.heap[g]? = some (Obj.cells cur e (0, 0)) → w'.heap[g]? = w.heap[g]? := by
    intro g cur hc
    refine hgr.block g (lt_of_block hc) (fun ee => ?_)
    obtain ⟨cur', hc'⟩ := own_block h1 g ee.symm
    rw [hc'] at hc
    simp at hc
    exact hne hc.2
  have h3' : w'.ownsRow B e size v m (reps m (mk N)) := own_same h3 (fun g hg => by obtain ⟨cur, hc⟩ := own_block h3 g hg; exact hblk g cur hc)
  have hlen : Ls.length = N + q := by have := h1.1; omega
  refine ⟨⟨Ls ++ [v], hown Ls h1, fun i u hu => ?_⟩, h3', h5⟩
  by_cases hi : i < Ls.length
  · rw [List.getElem?_append_left hi] at hu
    obtain ⟨k, r1, r2, r3⟩ := h2 i u hu
    exact ⟨k, r1, r2.same (fun g hg => by obtain ⟨cur, hc⟩ := r2.block g hg; exact hblk g cur hc), r3⟩
  · rw [List.getElem?_append_right (by omega)] at hu
    have hi2 : i - Ls.length = 0 := by
      have := (List.getElem?_eq_some_iff.1 hu).1
      simpa using this
    rw [hi2] at hu
    obtain rfl : v = u := by simpa using hu
    refine ⟨m, hm, ?_, h5, fun _ _ _ => Nat.le_refl _⟩
    rw [show i / 4 * 4 = N by omega]
    exact Reads.of_own h3'
/-- The list grows by a mark. -/
theorem Rec.grow (h : Rec w B eO e size mk Q N q vO v m) (hne : eO ≠ e) {v' : Value} (hgr : w.grownBy w' v.ownBlock) (hk : Keeps w w' e v (m * size)) (hfr : ∀ g', v'.ownBlock = some g' → v.ownBlock = some g' ∨ w.heap.size ≤ g')
    (hQ : ∀ g, w.heap.size ≤ g → Q g) (hown : w'.ownsRow B e size v' (m + 1) (reps m (mk N) ++ mk N)) : Rec w' B eO e size mk Q N q vO v' (m + 1) := by
  obtain ⟨⟨Ls, h1, h2⟩, h3, h5⟩ := h
  refine ⟨⟨Ls, own_same h1 (fun g hg => ?_), fun i u hu => ?_⟩, by rw [reps_succ]; exact hown, fun g hg => (hfr g hg).elim (h5 g) (hQ g)⟩
  · obtain ⟨cur, hc⟩ := own_block h1 g hg
    refine hgr.block g (lt_of_block hc) (fun ee => ?_)
    obtain ⟨cur', hc'⟩ := own_block h3 g ee.symm
    rw [hc'] at hc
    simp at hc
    exact hne hc.2.symm
  · obtain ⟨k, r1, r2, r4, r3⟩ := h2 i u hu
    refine ⟨k, r1, r2.append hgr hk r3, r4, fun g hg hv' => ?_⟩
    rcases hfr g hv' with r | r
    · have := r3 g hg r; omega
    · have := (r2.lt g hg).2; omega
/-- Behind the four: the lists stand by themselves. -/
theorem Rec.lists (h : Rec w B eO e size mk Q N q vO v m) : ListsIn w B eO e size mk vO (N + q) Q := by
  obtain ⟨⟨Ls, h1, h2⟩, _, _⟩ := h
  exact ⟨Ls, h1, fun i u hu => by obtain ⟨k, r1, r2, r3, _⟩ := h2 i u hu; exact ⟨k, r1, r2, r3⟩⟩
/-- Lists that lie apart from a slice: recording may begin. -/
theorem Rec.start {P : Nat → Prop} (h : ListsIn w B eO e size mk vO N P) (hv : w.ownsRow B e size v m (reps m (mk N))) (hap : ∀ g, P g → v.ownBlock ≠ some g) (hPQ : ∀ g, P g → Q g) (hvQ : ∀ g, v.ownBlock = some g → Q g) : Rec w B eO e size mk Q N 0 vO v m := by
  obtain ⟨Ls, h1, h2⟩ := h
  exact ⟨⟨Ls, h1, fun i u hu => by
    obtain ⟨k, r1, r2, r3⟩ := h2 i u hu
    exact ⟨k, r1, r2, fun g hg => hPQ g (r3 g hg), fun g hg hg' => absurd hg' (hap g (r3 g hg))⟩⟩, hv, hvQ⟩
end

/-- The first K cells of a slice's own array are as they shall be. -/
def PartC (w : World) (B : Nat) (e : TypeId) (size : Nat) (v : Value) (n K : Nat) (xs : List Value) : Prop :=
  (v = .slice none 0 0 ∧ n = 0) ∨ ∃ g cap cur, v = .slice (some ⟨g, 0, none⟩) n cap ∧ B ≤ g ∧ w.heap[g]? = some (Obj.cells cur e (0, 0)) ∧ n ≤ cap ∧ cap ≤ maxLen ∧ cur.size = cap * size ∧ ∀ x, x < K → cur[x]? = xs[x]?
section
variable {w w' : World} {B : Nat} {e : TypeId} {size : Nat} {v : Value} {n K : Nat} {xs ys : List Value}
theorem PartC.of_own (h : w.ownsRow B e size v n ys) : PartC w B e size v n 0 xs := by
  rcases h.2 with h0 | ⟨g, cap, cur, hv, hg, hh, h1, h2, h3, _⟩
  · exact .inl h0
  · exact .inr ⟨g, cap, cur, hv, hg, hh, h1, h2, h3, fun x hx => absurd hx (Nat.not_lt_zero _)⟩
theorem PartC.own (h : PartC w B e size v n K xs) (hx : xs.length = n * size) (hK : K = n * size) : w.ownsRow B e size v n xs := by
  refine ⟨hx, ?_⟩
  rcases h with h0 | ⟨g, cap, cur, hv, hg, hh, h1, h2, h3, h4⟩
  · exact .inl h0
  · refine .inr ⟨g, cap, cur, hv, hg, hh, h1, h2, h3, ?_⟩
    have hle : n * size ≤ cap * size := Nat.mul_le_mul_right _ h1
    apply List.ext_getElem?
    intro x
    rw [List.getElem?_take]
    split
    · rename_i hlt
      rw [← h4 x (by omega)]
      simp
    · rename_i hlt
      rw [List.getElem?_eq_none (by omega)]
theorem PartC.same (h : PartC w B e size v n K xs) (hs : ∀ g, v.ownBlock = some g → w'.heap[g]? = w.heap[g]?) : PartC w' B e size v n K xs := by
  rcases h with h0 | ⟨g, cap, cur, rfl, hg, hh, r⟩
  · exact .inl h0
  · exact .inr ⟨g, cap, cur, rfl, hg, (hs g rfl).trans hh, r⟩
theorem PartC.step {g cap : Nat} {a : Value} (h : PartC w B e size (.slice (some ⟨g, 0, none⟩) n cap) n K xs) (ha : xs[K]? = some a) (hK : K < n * size) : PartC (w.setCell ⟨g, K, none⟩ a) B e size (.slice (some ⟨g, 0, none⟩) n cap) n (K + 1) xs := by
  rcases h with ⟨h0, _⟩ | ⟨g', cap', cur, hv, hg, hh, h1, h2, h3, h4⟩
  · simp at h0
  · simp only [Value.slice.injEq, Option.some.injEq, Addr.mk.injEq, and_true, true_and] at hv
    obtain ⟨rfl, rfl⟩ := hv
    refine .inr ⟨g, cap, cur.setIfInBounds K a, rfl, hg, heap_setCell_same w g K cur e a hh, h1, h2, by rw [Array.size_setIfInBounds]; exact h3, fun x hx => ?_⟩
    have hle : n * size ≤ cap * size := Nat.mul_le_mul_right _ h1
    rw [Array.getElem?_setIfInBounds]
    by_cases e1 : K = x
    · subst e1
      rw [if_pos rfl, if_pos (by omega), ha]
    · rw [if_neg e1]
      exact h4 x (by omega)
theorem PartC.cells {g cap : Nat} (h : PartC w B e size (.slice (some ⟨g, 0, none⟩) n cap) n K xs) : (∀ j, j < n * size → ∃ u, w.cell? ⟨g, j, none⟩ = some u) ∧ ∀ j, w.frozen? ⟨g, j, none⟩ = false := by
  rcases h with ⟨h0, _⟩ | ⟨g', cap', cur, hv, hg, hh, h1, h2, h3, h4⟩
  · simp at h0
  · simp only [Value.slice.injEq, Option.some.injEq, Addr.mk.injEq, and_true, true_and] at hv
    obtain ⟨rfl, rfl⟩ := hv
    have hle : n * size ≤ cap * size := Nat.mul_le_mul_right _ h1
    refine ⟨fun j hj => ?_, fun j => frozen_of_row w g j cur e hh⟩
    rw [cell_of_row w g j cur e (0, 0) hh, Array.getElem?_eq_getElem (by omega)]
    exact ⟨_, rfl⟩
theorem PartC.view (h : PartC w B e size v n K xs) : ∃ a c, v = .slice a n c ∧ ∀ i, i < n → ∃ g, a = some ⟨g, 0, none⟩ := by
  rcases h with ⟨rfl, rfl⟩ | ⟨g, cap, cur, rfl, _⟩
  · exact ⟨none, 0, rfl, fun i hi => absurd hi (Nat.not_lt_zero _)⟩
  · exact ⟨_, _, rfl, fun i hi => ⟨g, rfl⟩⟩
end

/-- Nothing but the count of draws has turned. -/
structure SameH (w w' : World) : Prop where
  heap : w'.heap = w.heap
  os : w'.os = w.os
  tape : w'.tape = w.tape
  output : w'.output = w.output
theorem SameH.refl (w : World) : SameH w w := ⟨rfl, rfl, rfl, rfl⟩
theorem SameH.cell {w w' : World} (h : SameH w w') (a : Addr) : w'.cell? a = w.cell? a := by unfold World.cell?; rw [h.heap]
theorem SameH.frozen {w w' : World} (h : SameH w w') (a : Addr) : w'.frozen? a = w.frozen? a := by unfold World.frozen?; rw [h.heap]
theorem SameH.drew {w w' : World} (h : SameH w w') : SameH w w'.drew := ⟨h.heap, h.os, h.tape, h.output⟩
theorem SameH.setCell {w w' : World} (h : SameH w w') (kb i : Nat) (v : Value) (cur : Array Value) (t : TypeId) (hk : w.heap[kb]? = some (Obj.cells cur t (0, 0))) (hv : cur[i]? = some v) : SameH w (w'.setCell ⟨kb, i, none⟩ v) := by
  refine ⟨?_, h.os, h.tape, h.output⟩
  rw [← h.heap]
  apply Array.ext_getElem?
  intro k
  by_cases e : k = kb
  · subst e
    rw [heap_setCell_same w' k i cur t v (by rw [h.heap]; exact hk), h.heap, hk]
    congr 2
    apply Array.ext_getElem?
    intro x
    rw [Array.getElem?_setIfInBounds]
    split
    · rename_i hx
      subst hx
      have hi : i < cur.size := (Array.getElem?_eq_some_iff.1 hv).1
      rw [if_pos hi, hv]
    · rfl
  · exact heap_setCell_other _ _ _ _ e
theorem SameH.foot {w w' : World} (h : SameH w w') (kb : Nat) (vO vC : Value) : Foot w w' kb vO vC := ⟨h.os, h.tape, h.output, by rw [h.heap]; exact Nat.le_refl _, fun k _ _ _ _ => by rw [h.heap]⟩
end Go.Proofs.Ytcpldcojckhapaa
