/-
  A device in memory, and what may turn while it is used.
-/
import Derived.Test.YtcpldcojckhapaaGreatE2
set_option maxRecDepth 100000
namespace Go.Proofs.YtcpldcojckhapaaGreat
open Go.RowKit

/-- A line, plain. -/
structure Ln where
  kind : Nat
  bytes : ByteArray
  broken : Bool
def lnc (l : Ln) (j : Nat) : Value := if j = 0 then .int .i64 (l.kind : Nat) else if j = 1 then .string l.bytes else .bool l.broken
/-- A device, plain. -/
structure Dev where
  unit : Nat
  batch : Nat
  nl : Nat
  ln : Nat → Ln
  sz : Nat → Nat
  ent : Nat → Nat → Int
  kp : Nat → Nat
  sec : Nat
  lat : Nat
  stamp : Nat
  arr : Nat
  uns : Nat
  wait : List (Int × Int × ByteArray)
  base : Nat
/-- The cells of a device's block. -/
def devC (D : Dev) (L S : Nat) (E : Nat → Nat) (wv : Value) : Array Value :=
  #[.int .i64 (D.unit : Nat), .int .i64 (D.batch : Nat), .slice (some ⟨L, 0, none⟩) D.nl D.nl,
    .slice (some ⟨E 0, 0, none⟩) (D.sz 0) (D.sz 0), .slice (some ⟨E 1, 0, none⟩) (D.sz 1) (D.sz 1), .slice (some ⟨E 2, 0, none⟩) (D.sz 2) (D.sz 2), .slice (some ⟨E 3, 0, none⟩) (D.sz 3) (D.sz 3),
    .int .i64 (D.kp 0 : Nat), .int .i64 (D.kp 1 : Nat), .int .i64 (D.kp 2 : Nat), .int .i64 (D.kp 3 : Nat),
    .pointer (some ⟨S, 0, none⟩), .int .i64 (D.arr : Nat), .int .i64 (D.uns : Nat), wv]
/-- A device lies at block d. -/
structure DevIn (w : World) (d L S : Nat) (E : Nat → Nat) (wv : Value) (D : Dev) : Prop where
  dev : w.heap[d]? = some (.cells (devC D L S E wv) 110 (0, 0))
  lines : Grid w L 116 D.nl 3 (fun i j => lnc (D.ln i) j)
  ent : ∀ i, i < 4 → Grid w (E i) 3 (D.sz i) 1 (fun k _ => .int .i64 (D.ent i k))
  inj : ∀ i j, i < 4 → j < 4 → i ≠ j → E i ≠ E j
  store : w.heap[S]? = some (.cells #[.int .i64 (D.sec : Nat), .int .i64 (D.lat : Nat), .int .u8 (D.stamp : Nat)] 155 (0, 0))
  wait : w.ownsRow D.base 163 3 wv D.wait.length (D.wait.flatMap encF)
  lo : D.base ≤ d ∧ D.base ≤ L ∧ D.base ≤ S ∧ ∀ i, i < 4 → D.base ≤ E i
def DevAt (w : World) (d : Nat) (D : Dev) : Prop := ∃ L S E wv, DevIn w d L S E wv D

/-- The types of the blocks that a device is made of. -/
def devT (t : TypeId) : Bool := t == 110 || t == 116 || t == 3 || t == 155 || t == 163
/-- What may turn while a device is used: its own blocks. -/
structure Ft (w w' : World) : Prop where
  os : w'.os = w.os
  tape : w'.tape = w.tape
  output : w'.output = w.output
  size : w.heap.size ≤ w'.heap.size
  keep : ∀ (g : Nat) (cur : Array Value) (t : TypeId), w.heap[g]? = some (.cells cur t (0, 0)) → devT t = false → w'.heap[g]? = w.heap[g]?
theorem Ft.refl (w : World) : Ft w w := ⟨rfl, rfl, rfl, Nat.le_refl _, fun _ _ _ _ _ => rfl⟩
theorem Ft.trans {a b c : World} (h : Ft a b) (h' : Ft b c) : Ft a c :=
  ⟨h'.os.trans h.os, h'.tape.trans h.tape, h'.output.trans h.output, Nat.le_trans h.size h'.size, fun g cur t hg ht => (h'.keep g cur t ((h.keep g cur t hg ht).trans hg) ht).trans (h.keep g cur t hg ht)⟩
theorem Ft.of_below {w w' : World} (h : Below w.heap.size w w') : Ft w w' := ⟨h.os, h.tape, h.output, h.size, fun g _ _ hg _ => h.block g (lt_of_block hg)⟩
theorem Ft.drewN (w : World) (k : Nat) : Ft w (w.drewN k) := Ft.of_below (below_drewN (Below.refl _ _) _)
theorem Ft.alloc (w : World) (o : Obj) : Ft w (w.alloc o) := Ft.of_below (bel_alloc (Below.refl _ _) _)
theorem Ft.setCell {w : World} {g : Nat} {cur : Array Value} {t : TypeId} (h : w.heap[g]? = some (.cells cur t (0, 0))) (ht : devT t = true) (k : Nat) (v : Value) : Ft w (w.setCell ⟨g, k, none⟩ v) := by
  refine ⟨rfl, rfl, rfl, by simp, fun g' cur' t' hg' ht' => ?_⟩
  have : g' ≠ g := fun e => by
    subst e
    rw [h] at hg'
    simp only [Option.some.injEq, Obj.cells.injEq, and_true] at hg'
    rw [hg'.2] at ht
    rw [ht] at ht'
    exact absurd ht' (by decide)
  exact heap_setCell_other w _ _ v (by simpa using this)
/-- What is owned and no device's stays. -/
theorem Ft.own {w w' : World} (h : Ft w w') {B : Nat} {e : TypeId} {size : Nat} {v : Value} {n : Nat} {xs : List Value} (ho : w.ownsRow B e size v n xs) (he : devT e = false) : w'.ownsRow B e size v n xs :=
  own_same ho fun g hg => by obtain ⟨cur, hc⟩ := own_block ho g hg; exact h.keep g cur e hc he

/-- All blocks that were there are as they were, but one. -/
structure Chg1 (g : Nat) (w w' : World) : Prop where
  os : w'.os = w.os
  tape : w'.tape = w.tape
  output : w'.output = w.output
  size : w.heap.size ≤ w'.heap.size
  block : ∀ k, k < w.heap.size → k ≠ g → w'.heap[k]? = w.heap[k]?
section
variable {g : Nat} {w w' w2 : World}
theorem Chg1.refl (g : Nat) (w : World) : Chg1 g w w := ⟨rfl, rfl, rfl, Nat.le_refl _, fun _ _ _ => rfl⟩
theorem Chg1.of_below (g : Nat) (h : Below w.heap.size w w') : Chg1 g w w' := ⟨h.os, h.tape, h.output, h.size, fun k hk _ => h.block k hk⟩
theorem Chg1.trans (h : Chg1 g w w') (h' : Chg1 g w' w2) : Chg1 g w w2 :=
  ⟨h'.os.trans h.os, h'.tape.trans h.tape, h'.output.trans h.output, Nat.le_trans h.size h'.size, fun k hk hg => (h'.block k (Nat.lt_of_lt_of_le hk h.size) hg).trans (h.block k hk hg)⟩
theorem Chg1.then_below (h : Chg1 g w w') (h' : Below w'.heap.size w' w2) : Chg1 g w w2 := h.trans (Chg1.of_below g h')
theorem Chg1.setCell (h : Chg1 g w w') (k : Nat) (v : Value) : Chg1 g w (w'.setCell ⟨g, k, none⟩ v) :=
  h.trans ⟨rfl, rfl, rfl, by simp, fun k' _ hg => heap_setCell_other w' _ _ v (by simpa using hg)⟩
theorem Chg1.alloc (h : Chg1 g w w') (o : Obj) : Chg1 g w (w'.alloc o) := h.then_below (bel_alloc (Below.refl _ _) _)
theorem Chg1.drewN (h : Chg1 g w w') (k : Nat) : Chg1 g w (w'.drewN k) := h.then_below (below_drewN (Below.refl _ _) _)
theorem Chg1.setNew (h : Chg1 g w w') (a k : Nat) (ha : w.heap.size ≤ a) (v : Value) : Chg1 g w (w'.setCell ⟨a, k, none⟩ v) :=
  ⟨h.os, h.tape, h.output, Nat.le_trans h.size (by simp), fun k' hk hg => (heap_setCell_other w' _ _ v (by show k' ≠ a; omega)).trans (h.block k' hk hg)⟩
theorem Chg1.cell (h : Chg1 g w w') {b o : Nat} (hb : b < w.heap.size) (hg : b ≠ g) : w'.cell? ⟨b, o, none⟩ = w.cell? ⟨b, o, none⟩ := by
  simp only [World.cell?, h.block b hb hg]
theorem Chg1.ft {cur : Array Value} {t : TypeId} (h : Chg1 g w w') (hg : w.heap[g]? = some (.cells cur t (0, 0))) (ht : devT t = true) : Ft w w' :=
  ⟨h.os, h.tape, h.output, h.size, fun k c t' hk ht' => h.block k (lt_of_block hk) (fun e => by
    subst e
    rw [hg] at hk
    simp only [Option.some.injEq, Obj.cells.injEq, and_true] at hk
    rw [hk.2] at ht
    rw [ht] at ht'
    exact absurd ht' (by decide))⟩
end
end Go.Proofs.YtcpldcojckhapaaGreat
