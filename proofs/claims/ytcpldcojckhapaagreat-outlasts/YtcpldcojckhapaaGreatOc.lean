/-
  Outlasts: what stands while it is walked.
-/
import Derived.Test.YtcpldcojckhapaaGreatOa
import Derived.Test.YtcpldcojckhapaaGreatJ47
import Derived.Deep.CutBlock
import Derived.Deep.RegionHeld3
set_option maxRecDepth 100000
set_option linter.unusedVariables false
namespace Go.Proofs.YtcpldcojckhapaaGreat
open Go.RowKit

theorem pick_nat (c : Int) (n : Nat) (h1 : -9223372036854775808 ≤ c) (h2 : c ≤ 9223372036854775807) (h3 : 0 < n) (h4 : n ≤ 65536) : ∃ x : Nat, x < n ∧ ∀ w : World, Calls Tryz.prog 18 #[.int .i64 c, .int .i64 (n : Nat)] w fun e w' => e = .returned (.int .i64 (x : Nat)) ∧ w' = w := by
  refine ⟨(pk c n).toNat, ?_, fun w => (pick_any c n w h1 h2 (by omega) (by omega)).mono fun e w' h => ?_⟩
  · have := pk_lt c n (by omega); have := pk_nonneg c n (by omega); omega
  · have := pk_nonneg c n (by omega)
    rw [Int.toNat_of_nonneg this]
    exact h
theorem FtT.bel {n B : Nat} {T : TypeId → Bool} {a w w' : World} (h : FtT B T w w') (hb : Below n a w) (h1 : n ≤ B) (h2 : n ≤ w.heap.size) : Below n a w' :=
  hb.trans ⟨h.os, h.tape, h.output, h.size, fun k hk => h.low k (by omega) (by omega)⟩
theorem own_ft {B C n : Nat} {v : Value} {xs : List Value} {w w' : World} (h : w.ownsRow C 77 4 v n xs) (hf : FtT B devT w w') : w'.ownsRow C 77 4 v n xs :=
  own_same h (fun g hg => by obtain ⟨cg, hcg⟩ := own_block h g hg; exact hf.keep g cg 77 hcg rfl)
/-- A disk of two sectors lies at block g. -/
def DiskIn (w : World) (g : Nat) (f : Nat → ByteArray) : Prop := ∃ cur : Array Value, w.heap[g]? = some (.cells cur 9 (0, 0)) ∧ cur[0]? = some (.string (f 0)) ∧ cur[1]? = some (.string (f 1))
theorem DiskIn.ft {w w' : World} {B g : Nat} {T : TypeId → Bool} {f : Nat → ByteArray} (h : DiskIn w g f) (hf : FtT B T w w') (hT : T 9 = false) : DiskIn w' g f := by
  obtain ⟨cur, h1, h2⟩ := h
  exact ⟨cur, (hf.keep g cur 9 h1 hT).trans h1, h2⟩
theorem DiskIn.bel {w w' : World} {g : Nat} {f : Nat → ByteArray} (h : DiskIn w g f) (hb : Below w.heap.size w w') : DiskIn w' g f := by
  obtain ⟨cur, h1, h2⟩ := h
  exact ⟨cur, (hb.block g (lt_of_block h1)).trans h1, h2⟩
theorem DiskIn.lt {w : World} {g : Nat} {f : Nat → ByteArray} (h : DiskIn w g f) : g < w.heap.size := by
  obtain ⟨cur, h1, h2⟩ := h
  exact lt_of_block h1
/-- What stands while holders are written. -/
structure OIn (W w : World) (d L S : Nat) (E : Nat → Nat) (gd B b : Nat) (ws : Nat → Nat) (q : Nat) (a : Value) (A : List (Int × Int × Int × ByteArray)) (t lat st : Nat) (wv : Value) : Prop where
  tq : t ≤ q
  qb : q - t < b
  hist : Hist ws A t lat st
  acts : w.ownsRow B 77 4 a A.length (A.flatMap encA)
  dev : DevIn w d L S E wv (oD B b ws q t lat st)
  disk : DiskIn w gd (fun _ => blank64)
  bel : Below B W w
theorem OIn.then_below {W w w' : World} {d L S : Nat} {E : Nat → Nat} {gd B b : Nat} {ws : Nat → Nat} {q : Nat} {a : Value} {A : List (Int × Int × Int × ByteArray)} {t lat st : Nat} {wv : Value} (h : OIn W w d L S E gd B b ws q a A t lat st wv) (hB : B = W.heap.size) (hb : Below w.heap.size w w') : OIn W w' d L S E gd B b ws q a A t lat st wv :=
  ⟨h.tq, h.qb, h.hist, ownsRow_below h.acts hb, h.dev.belowQ hb, h.disk.bel hb, by subst hB; exact bel_then h.bel hb⟩
theorem OIn.fed {W w w1 w2 : World} {d L S : Nat} {E : Nat → Nat} {gd B b : Nat} {ws : Nat → Nat} {q q' : Nat} {a v : Value} {A A' : List (Int × Int × Int × ByteArray)} {t lat st t' lat' st' : Nat} {wv wv' : Value} (h : OIn W w d L S E gd B b ws q a A t lat st wv) (hB : B = W.heap.size)
    (hF : FtT B devT w w1) (hD : DevIn w1 d L S E wv' (oD B b ws q' t' lat' st')) (hH : Hist ws (A ++ A') t' lat' st') (ht : t' ≤ q') (hb : q' - t' < b) (ho : w2.ownsRow B 77 4 v (A.length + A'.length) (A.flatMap encA ++ A'.flatMap encA)) (hg : w1.grownBy w2 a.ownBlock) :
    OIn W w2 d L S E gd B b ws q' v (A ++ A') t' lat' st' wv' := by
  have hs := h.bel.size
  have ha := own_ft h.acts hF
  have hG := (FtT.refl (B := 0) (fun t => t == 77) w1).grown hg (fun k hk => ⟨Nat.zero_le _, own_block ha k hk⟩) rfl
  refine ⟨ht, hb, hH, ?_, hD.keep hG rfl rfl rfl rfl rfl, (h.disk.ft hF rfl).ft hG rfl, ?_⟩
  · rw [List.flatMap_append, List.length_append]; exact ho
  · have h1 : Below B W w1 := hF.bel h.bel (Nat.le_refl _) (by omega)
    exact h1.trans ⟨hg.os, hg.tape, hg.output, hg.size, fun k hk => hg.block k (by have := h1.size; omega) (fun e => by have := (ha.lt k e.symm).1; omega)⟩
theorem cfg_o (w : World) (b : Nat) : ∃ W, W = (w.alloc (.cells #[.int .i64 0] 3)).alloc (.cells #[.int .i64 0, .int .i64 0, .int .i64 8, .int .i64 0, .int .i64 0, .int .i64 8, .int .i64 1, .slice (some ⟨w.heap.size, 0, none⟩) 1 1, .int .i64 (b : Nat)] 39) ∧ W.heap.size = w.heap.size + 2 ∧ Below w.heap.size w W ∧ W.heap[w.heap.size]? = some (.cells #[.int .i64 0] 3 (0, 0)) ∧
    W.heap[w.heap.size + 1]? = some (.cells #[.int .i64 0, .int .i64 0, .int .i64 8, .int .i64 0, .int .i64 0, .int .i64 8, .int .i64 1, .slice (some ⟨w.heap.size, 0, none⟩) 1 1, .int .i64 (b : Nat)] 39 (0, 0)) := by
  refine ⟨_, rfl, by simp, bel_alloc (bel_alloc (Below.refl _ _) _) _, ?_, ?_⟩
  · rw [heap_alloc_old _ _ (by simp)]; exact heap_alloc_new w _
  · have := heap_alloc_new (w.alloc (.cells #[.int .i64 0] 3)) (.cells #[.int .i64 0, .int .i64 0, .int .i64 8, .int .i64 0, .int .i64 0, .int .i64 8, .int .i64 1, .slice (some ⟨w.heap.size, 0, none⟩) 1 1, .int .i64 (b : Nat)] 39)
    rwa [show (w.alloc (.cells #[.int .i64 0] 3)).heap.size = w.heap.size + 1 by simp] at this
theorem acts_at {w : World} {B k : Nat} {a : Option Addr} {l : List (Int × Int × Int × ByteArray)} (h : w.ownsRow B 77 4 (.slice a l.length k) l.length (l.flatMap encA)) (q : Nat) (x : Int × Int × Int × ByteArray) (hx : l[q]? = some x) :
    ∃ g, a = some ⟨g, 0, none⟩ ∧ g < w.heap.size ∧ w.cell? ⟨g, q * 4, none⟩ = some (.int .u8 x.1) ∧ w.cell? ⟨g, q * 4 + 1, none⟩ = some (.int .i64 x.2.1) ∧ w.cell? ⟨g, q * 4 + 2, none⟩ = some (.int .i64 x.2.2.1) ∧ w.cell? ⟨g, q * 4 + 3, none⟩ = some (.string x.2.2.2) := by
  obtain ⟨a', c', he, hat⟩ := own_view h
  obtain ⟨rfl, rfl⟩ : a' = a ∧ c' = k := by simpa using he.symm
  have hlt : q < l.length := (List.getElem?_eq_some_iff.1 hx).1
  have hxe : l[q] = x := by rw [List.getElem?_eq_getElem hlt] at hx; exact Option.some.inj hx
  obtain ⟨g, rfl, hg, hc⟩ := hat q hlt
  refine ⟨g, rfl, hg, ?_, ?_, ?_, ?_⟩
  · have := flat_gen encA 4 (fun _ => rfl) l q 0 hlt (by omega)
    rw [Nat.add_zero] at this
    rw [hc _ (by omega), this, hxe]; rfl
  · have := flat_gen encA 4 (fun _ => rfl) l q 1 hlt (by omega)
    rw [hc _ (by omega), this, hxe]; rfl
  · have := flat_gen encA 4 (fun _ => rfl) l q 2 hlt (by omega)
    rw [hc _ (by omega), this, hxe]; rfl
  · have := flat_gen encA 4 (fun _ => rfl) l q 3 hlt (by omega)
    rw [hc _ (by omega), this, hxe]; rfl
/-- What stands while the acts take place. -/
structure PIn (W w : World) (B gd : Nat) (a : Value) (A : List (Int × Int × Int × ByteArray)) (s : Ds) (v : Value) : Prop where
  acts : w.ownsRow B 77 4 a A.length (A.flatMap encA)
  wet : (s.wet = [] ∧ v = .slice none 0 0) ∨ ∃ x, s.wet = [x] ∧ w.ownsRow B 77 4 v 1 (encA x)
  disk : DiskIn w gd s.dk
  bel : Below B W w
theorem PIn.then_below {W w w' : World} {B gd : Nat} {a v : Value} {A : List (Int × Int × Int × ByteArray)} {s : Ds} (h : PIn W w B gd a A s v) (hB : B = W.heap.size) (hb : Below w.heap.size w w') : PIn W w' B gd a A s v :=
  ⟨ownsRow_below h.acts hb, h.wet.imp id fun ⟨x, h1, h2⟩ => ⟨x, h1, ownsRow_below h2 hb⟩, h.disk.bel hb, by subst hB; exact bel_then h.bel hb⟩
theorem bel_grown0 {w w' : World} (h : w.grownBy w' (Value.slice none 0 0).ownBlock) : Below w.heap.size w w' :=
  ⟨h.os, h.tape, h.output, h.size, fun k hk => h.block k hk (by simp [Value.ownBlock])⟩
/-- A Write. -/
theorem PIn.wrote {W w w' : World} {B gd : Nat} {a v v' : Value} {A : List (Int × Int × Int × ByteArray)} {s : Ds} {x : Int × Int × Int × ByteArray} (h : PIn W w B gd a A s v) (hB : B = W.heap.size) (hs : s.wet = []) (hx : x.1 = 0) {C : Nat} (hC : B ≤ C) (hg : w.grownBy w' (Value.slice none 0 0).ownBlock) (ho : w'.ownsRow C 77 4 v' 1 (encA x)) : PIn W w' B gd a A (stepD s x) v' := by
  have hsz := h.bel.size
  have hb := bel_grown0 hg
  have e : stepD s x = { s with wet := [x] } := by unfold stepD; rw [if_pos hx, hs]; rfl
  rw [e]
  exact ⟨ownsRow_below h.acts hb, .inr ⟨x, rfl, own_base ho hC⟩, h.disk.bel hb, by subst hB; exact bel_then h.bel hb⟩
/-- A Send. -/
theorem PIn.told {W w : World} {B gd : Nat} {a v : Value} {A : List (Int × Int × Int × ByteArray)} {s : Ds} {x : Int × Int × Int × ByteArray} (h : PIn W w B gd a A s v) (hx : x.1 = 2) : PIn W w B gd a A (stepD s x) v := by
  have e : stepD s x = { s with told := s.told + 1 } := by unfold stepD; rw [if_neg (by omega), if_neg (by omega)]
  rw [e]
  exact ⟨h.acts, h.wet, h.disk, h.bel⟩
/-- A sector is laid. -/
theorem PIn.laid {W w : World} {B gd q : Nat} {a v : Value} {A : List (Int × Int × Int × ByteArray)} {s : Ds} (h : PIn W w B gd a A s v) (hB : B ≤ gd) (hq : q ≤ 1) (dat : ByteArray) (k l : Int) :
    (w.setCell ⟨gd, q, none⟩ (.string dat)).ownsRow B 77 4 a A.length (A.flatMap encA) ∧ DiskIn (w.setCell ⟨gd, q, none⟩ (.string dat)) gd (putD s.dk (k, (q : Int), l, dat)) ∧ Below B W (w.setCell ⟨gd, q, none⟩ (.string dat)) := by
  obtain ⟨cur, h1, h2, h3⟩ := h.disk
  refine ⟨own_same h.acts (fun g hg => ?_), ⟨cur.setIfInBounds q (.string dat), heap_setCell_same w gd q _ 9 _ h1, ?_, ?_⟩, h.bel.trans ⟨rfl, rfl, rfl, by simp, fun k hk => heap_setCell_other w _ _ _ (by show k ≠ gd; omega)⟩⟩
  · obtain ⟨cg, hcg⟩ := own_block h.acts g hg
    exact heap_setCell_other w _ _ _ (ne_of_types hcg h1 (by decide))
  · rw [putD_at, Array.getElem?_setIfInBounds]
    by_cases e : q = 0
    · subst e
      rw [if_pos rfl, if_pos rfl, if_pos (by have := (Array.getElem?_eq_some_iff.1 h2).1; exact this)]
    · rw [if_neg e, if_neg (fun e' => e e'.symm)]; exact h2
  · rw [putD_at, Array.getElem?_setIfInBounds]
    by_cases e : q = 1
    · subst e
      rw [if_pos rfl, if_pos rfl, if_pos (by have := (Array.getElem?_eq_some_iff.1 h3).1; exact this)]
    · rw [if_neg e, if_neg (fun e' => e e'.symm)]; exact h3
/-- A Sync. -/
theorem sync_none {s : Ds} {x : Int × Int × Int × ByteArray} (hx : x.1 = 1) (hs : s.wet = []) : stepD s x = { s with wet := [] } := by
  unfold stepD; rw [if_neg (by omega), if_pos hx, hs]; rfl
theorem sync_one {s : Ds} {x y : Int × Int × Int × ByteArray} (hx : x.1 = 1) (hs : s.wet = [y]) : stepD s x = ⟨putD s.dk y, [], s.told⟩ := by
  unfold stepD; rw [if_neg (by omega), if_pos hx, hs]; rfl
theorem DiskIn.cells {w : World} {g : Nat} {f : Nat → ByteArray} (h : DiskIn w g f) : w.cell? ⟨g, 0, none⟩ = some (.string (f 0)) ∧ w.cell? ⟨g, 1, none⟩ = some (.string (f 1)) ∧ (∀ q, q ≤ 1 → w.cell? ⟨g, q, none⟩ = some (.string (f q))) ∧ ∀ o, w.frozen? ⟨g, o, none⟩ = false := by
  obtain ⟨cur, h1, h2, h3⟩ := h
  have a0 : w.cell? ⟨g, 0, none⟩ = some (.string (f 0)) := by rw [cell_of_row _ _ _ _ _ _ h1]; exact h2
  have a1 : w.cell? ⟨g, 1, none⟩ = some (.string (f 1)) := by rw [cell_of_row _ _ _ _ _ _ h1]; exact h3
  refine ⟨a0, a1, fun q hq => ?_, fun o => frozen_of_row _ _ _ _ _ h1⟩
  rcases (show q = 0 ∨ q = 1 by omega) with rfl | rfl
  · exact a0
  · exact a1
/-- The law's own list of what was written. -/
def leftC (ws : Nat → Nat) (k : Nat) : Array Value := ((left ws k).map fun x => Value.int .i64 ((x : Nat) : Int)).toArray
theorem leftC_next (ws : Nat → Nat) (k : Nat) : (leftC ws k).setIfInBounds (ws k) (.int .i64 ((k : Int) + 1)) = leftC ws (k + 1) := by
  apply Array.toList_inj.1
  unfold leftC
  rw [show left ws (k + 1) = (left ws k).set (ws k) (k + 1) from rfl, List.map_set]
  simp
theorem leftC_at (ws : Nat → Nat) (k j : Nat) (x : Int) (h : ((left ws k).map fun x => ((x : Nat) : Int))[j]? = some x) : (leftC ws k)[j]? = some (.int .i64 x) := by
  unfold leftC
  rw [List.getElem?_toArray, List.getElem?_map]
  rw [List.getElem?_map] at h
  obtain ⟨y, hy, rfl⟩ := Option.map_eq_some_iff.1 h
  rw [hy]; rfl
theorem leftC_old (ws : Nat → Nat) (k j : Nat) (hj : j < 8) : ∃ v, (leftC ws k)[j]? = some v := by
  have : j < (leftC ws k).size := by simp [leftC, left_len, hj]
  exact ⟨_, Array.getElem?_eq_getElem this⟩
/-- What stands while it is compared. -/
structure CIn (X w : World) (gq : Nat) (ws : Nat → Nat) (k : Nat) : Prop where
  row : w.heap[gq]? = some (.cells (leftC ws k) 3 (0, 0))
  chg : Chg1 gq X w
theorem CIn.drewN {X w : World} {gq : Nat} {ws : Nat → Nat} {k : Nat} (h : CIn X w gq ws k) (n : Nat) : CIn X (w.drewN n) gq ws k := ⟨h.row, h.chg.drewN n⟩
theorem CIn.set {X w : World} {gq : Nat} {ws : Nat → Nat} {k : Nat} (h : CIn X w gq ws k) : CIn X (w.setCell ⟨gq, ws k, none⟩ (.int .i64 ((k : Int) + 1))) gq ws (k + 1) :=
  ⟨by rw [heap_setCell_same w gq (ws k) _ 3 _ h.row, leftC_next], h.chg.setCell _ _⟩
end Go.Proofs.YtcpldcojckhapaaGreat
