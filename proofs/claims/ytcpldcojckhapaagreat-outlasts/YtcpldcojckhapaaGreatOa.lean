/-
  Outlasts: the device while holders are written, one after the other: what Feed and Flush do.
-/
import Derived.Test.YtcpldcojckhapaaGreatOb
import Derived.Test.YtcpldcojckhapaaGreatHx
import Derived.Test.YtcpldcojckhapaaGreatF2
import Derived.Test.YtcpldcojckhapaaGreatQa
import Derived.Test.YtcpldcojckhapaaGreatWu
set_option maxRecDepth 100000
namespace Go.Proofs.YtcpldcojckhapaaGreat
open Go.RowKit

def oEnt (ws : Nat → Nat) (i a k : Nat) : Int := if a = 2 then (((left ws i).getD k 0 : Nat) : Int) else 0
/-- The device of Outlasts with i requests done, t of them safe. -/
def oD (B b : Nat) (ws : Nat → Nat) (i t lat st : Nat) : Dev :=
  { unit := 1, batch := b, nl := 1, ln := fun _ => ⟨0, ⟨#[]⟩, false⟩, sec := 1, sz := szF 0 0 8 0, ent := oEnt ws i, kp := fun i => if i = 2 then 8 else 0, lat := lat, stamp := st, arr := i, uns := i - t, wait := (List.range (i - t)).map fun a => ansF ws (t + a), base := B }
theorem oD_start (B b : Nat) (ws : Nat → Nat) : dev0 0 0 8 0 8 1 1 b (fun _ => 0) B = oD B b ws 0 0 0 0 := by
  have e : (fun _ _ => 0 : Nat → Nat → Int) = oEnt ws 0 := by
    funext a k
    unfold oEnt
    split
    · show (0 : Int) = (((List.replicate 8 0).getD k 0 : Nat) : Int)
      rw [List.getD_eq_getElem?_getD, List.getElem?_replicate]
      split <;> rfl
    · rfl
  unfold dev0 oD
  rw [e]
  rfl
theorem oEnt_next (B b : Nat) (ws : Nat → Nat) (i t lat st : Nat) (hw : ws i < 8) : entSet (oD B b ws i t lat st) (ws i) (i + 1) = oEnt ws (i + 1) := by
  funext a k
  unfold entSet
  show (if a = 2 ∧ k = ws i then ((i + 1 : Nat) : Int) else oEnt ws i a k) = oEnt ws (i + 1) a k
  unfold oEnt
  by_cases ha : a = 2
  · rw [if_pos ha, if_pos ha]
    rw [show left ws (i + 1) = (left ws i).set (ws i) (i + 1) from rfl]
    have hl := left_len ws i
    by_cases hk : k = ws i
    · rw [if_pos ⟨ha, hk⟩, hk, List.getD_eq_getElem?_getD, List.getElem?_set_self (by omega)]
      rfl
    · rw [if_neg (fun h => hk h.2), List.getD_eq_getElem?_getD, List.getD_eq_getElem?_getD, List.getElem?_set_ne (fun e => hk e.symm)]
  · rw [if_neg (fun h => ha h.1), if_neg ha, if_neg ha]
theorem oWait_next (ws : Nat → Nat) (i t : Nat) (h : t ≤ i) : ((List.range (i - t)).map fun a => ansF ws (t + a)) ++ [(((i + 1 : Nat) : Int), ((0 : Nat) : Int), streamB i 1 (writeB (ws i) (i + 1)))] = (List.range (i + 1 - t)).map fun a => ansF ws (t + a) := by
  rw [show i + 1 - t = (i - t) + 1 by omega, List.range_succ, List.map_append]
  congr 1
  simp only [List.map_cons, List.map_nil]
  rw [show t + (i - t) = i by omega]
  rfl
theorem oAsc (ws : Nat → Nat) (t : Nat) : Asc fun a => ansF ws (t + a) := by
  intro a b
  show ((t + a + 1 : Nat) : Int) < ((t + b + 1 : Nat) : Int) ↔ a < b
  omega
theorem oD_done (B b : Nat) (ws : Nat → Nat) (i t lat st lat' st' : Nat) : { oD B b ws i t lat st with lat := lat', stamp := st', uns := 0, wait := [] } = oD B b ws i i lat' st' := by
  unfold oD
  simp only [Nat.sub_self, List.range_zero, List.map_nil]
section
variable {B b : Nat} {ws : Nat → Nat} {i t lat st : Nat} (d L S : Nat) (E : Nat → Nat) (wv : Value) (w : World)
/-- Flush, with something to be saved. -/
theorem oSave (h : DevIn w d L S E wv (oD B b ws i t lat st)) (hi : i ≤ 200) (ht : t < i) (hb : i - t ≤ 8) (hlat : lat ≤ 1) (hst : st ≤ 3) :
    Calls Tryz.prog 24 #[.pointer (some ⟨d, 0, none⟩)] w fun e w' => ∃ v, e = .returned v ∧ w'.ownsRow w.heap.size 77 4 v (flA ws ((lat + 1) % 2) (st % 3 + 1) t i).length ((flA ws ((lat + 1) % 2) (st % 3 + 1) t i).flatMap encA) ∧ DevIn w' d L S E (.slice none 0 0) (oD B b ws i i ((lat + 1) % 2) (st % 3 + 1)) ∧ FtT B devT w w' := by
  have hll := left_len ws i
  have := flush_any d L S ((lat + 1) % 2) (st % 3 + 1) E wv (oD B b ws i t lat st) (left ws i) Up8 up8_len (pops_up8 d) (oD B b ws i t lat st).wait w h (by show 0 < i - t; omega) rfl (by show 8 ≤ 8; omega) (by show 8 ≤ 1000; omega) (by rw [hll]; rfl) (fun x hx => by have := left_le ws i x hx; omega) (fun j x hj => by
    show oEnt ws i 2 j = _
    unfold oEnt
    rw [if_pos rfl, List.getD_eq_getElem?_getD, hj]
    rfl) (by show 1 ≤ 64; omega) (fun i hi => by
      have : i < 1 := hi
      show i * 62 ≤ 2 * 8
      omega) hlat hst rfl rfl (up8_start _ (oAsc ws t) (i - t) hb) (by show ((List.range (i - t)).map fun a => ansF ws (t + a)).length ≤ 1000; simp; omega) (by show 0 < ((List.range (i - t)).map fun a => ansF ws (t + a)).length; simp; omega)
  refine this.mono ?_
  rintro e w' ⟨v, he, ho, hD, hF⟩
  rw [oD_done] at hD
  refine ⟨v, he, ?_, hD, hF⟩
  have hl : (oD B b ws i t lat st).sec + 1 + (oD B b ws i t lat st).wait.length = (flA ws ((lat + 1) % 2) (st % 3 + 1) t i).length := by
    rw [flA_len]
    show 1 + 1 + ((List.range (i - t)).map fun a => ansF ws (t + a)).length = _
    simp
  rw [hl] at ho
  exact ho
set_option maxRecDepth 100000 in
set_option maxHeartbeats 2000000 in
theorem flush_none (D : Dev) (h : DevIn w d L S E wv D) (hu : D.uns = 0) : Calls Tryz.prog 24 #[.pointer (some ⟨d, 0, none⟩)] w fun e w' => e = .returned (.slice none 0 0) ∧ w' = w := by
  obtain ⟨c0, c1, c2, c11, c12, c13, c14, cf, hdl⟩ := h.cells
  rw [hu] at c13
  clear h
  go_enter Tryz.func24, Tryz.ntmps24
  go_wp2
  go_ret
  exact ⟨rfl, rfl⟩
theorem oFlush (h : DevIn w d L S E wv (oD B b ws i t lat st)) (hi : i ≤ 200) (ht : t ≤ i) (hb : i - t < b) (hb8 : b ≤ 8) (A : List (Int × Int × Int × ByteArray)) (hH : Hist ws A t lat st) :
    Calls Tryz.prog 24 #[.pointer (some ⟨d, 0, none⟩)] w fun e w' => ∃ v wv' A' lat' st', e = .returned v ∧ w'.ownsRow w.heap.size 77 4 v A'.length (A'.flatMap encA) ∧ DevIn w' d L S E wv' (oD B b ws i i lat' st') ∧ Hist ws (A ++ A') i lat' st' ∧ FtT B devT w w' := by
  have hl := hH.len
  rcases Nat.lt_or_ge t i with h1 | h1
  · refine (oSave d L S E wv w h hi h1 (by omega) hl.2.1 hl.2.2).mono ?_
    rintro e w' ⟨v, he, ho, hD, hF⟩
    exact ⟨v, _, _, _, _, he, ho, hD, .flush hH h1, hF⟩
  · obtain rfl : t = i := by omega
    refine (flush_none d L S E wv w _ h (by show t - t = 0; omega)).mono ?_
    rintro e w' ⟨he, rfl⟩
    exact ⟨_, wv, [], lat, st, he, World.ownsRow_nil _ _ _ _, h, by rw [List.append_nil]; exact hH, FtT.refl _ _⟩
theorem oFeed (h : DevIn w d L S E wv (oD B b ws i t lat st)) (hw : ws i < 8) (hi : i < 200) (ht : t ≤ i) (hb : i - t < b) (hb8 : b ≤ 8) (A : List (Int × Int × Int × ByteArray)) (hH : Hist ws A t lat st) (s : ByteArray) (hs : s = streamB i 1 (writeB (ws i) (i + 1))) :
    Calls Tryz.prog 20 #[.pointer (some ⟨d, 0, none⟩), .int .i64 0, .string s] w fun e w' => ∃ v wv' A' t' lat' st', e = .returned (.tuple #[v, .int .i64 0]) ∧ w'.ownsRow w.heap.size 77 4 v A'.length (A'.flatMap encA) ∧ DevIn w' d L S E wv' (oD B b ws (i + 1) t' lat' st') ∧ Hist ws (A ++ A') t' lat' st' ∧ t' ≤ i + 1 ∧ i + 1 - t' < b ∧ FtT B devT w w' := by
  have hl := hH.len
  have hmay : Pl.May (i, (oD B b ws i t lat st).unit, writeB (ws i) (i + 1)) := ⟨by show i < 65536; omega, by show 1 < 256; decide, by show 1 ≤ (writeB (ws i) (i + 1)).size; rw [writeB_size]; omega, by show (writeB (ws i) (i + 1)).size ≤ 253; rw [writeB_size]; omega⟩
  have hdo := doIs_write d L S E wv (oD B b ws i t lat st) (ws i) (i + 1) (by show ws i < 8; omega) (by show 8 ≤ 1000; decide) (by omega) true (by show true = decide (ws i < 8); simp [hw])
  have hwl : (oD B b ws i t lat st).wait.length = i - t := by show ((List.range (i - t)).map fun a => ansF ws (t + a)).length = _; simp
  have hx : ∀ y ∈ (oD B b ws i t lat st).wait, y.1 < (((oD B b ws i t lat st).arr + 1 : Nat) : Int) := fun y hy => by
    have hy' : y ∈ (List.range (i - t)).map fun a => ansF ws (t + a) := hy
    obtain ⟨a, ha, rfl⟩ := List.mem_map.1 hy'
    have := List.mem_range.1 ha
    show ((t + a + 1 : Nat) : Int) < ((i + 1 : Nat) : Int)
    omega
  have hD2 : ({ oD B b ws i t lat st with arr := (oD B b ws i t lat st).arr + 1, ent := entSet (oD B b ws i t lat st) (ws i) (i + 1), uns := (oD B b ws i t lat st).uns + 1, wait := (oD B b ws i t lat st).wait ++ [((((oD B b ws i t lat st).arr + 1 : Nat) : Int), ((0 : Nat) : Int), streamB i (oD B b ws i t lat st).unit (writeB (ws i) (i + 1)))] } : Dev) = oD B b ws (i + 1) t lat st := by
    rw [oEnt_next B b ws i t lat st hw]
    have e1 : (oD B b ws i t lat st).wait ++ [((((oD B b ws i t lat st).arr + 1 : Nat) : Int), ((0 : Nat) : Int), streamB i (oD B b ws i t lat st).unit (writeB (ws i) (i + 1)))] = (List.range (i + 1 - t)).map fun a => ansF ws (t + a) := oWait_next ws i t ht
    rw [e1]
    have e2 : (oD B b ws i t lat st).uns + 1 = i + 1 - t := by show i - t + 1 = _; omega
    rw [e2]
    rfl
  rcases Nat.lt_or_ge (i - t + 1) b with h1 | h1
  · have htk := takeIs_waitT d L S 0 i E wv (oD B b ws i t lat st) _ (writeB (ws i) (i + 1)) _ (by show 0 < 1; decide) rfl (by omega) (by show 1 < 256; decide) (by show i ≤ 1000000; omega) (by rw [writeB_size]; omega) hdo (by rw [hwl]; exact h1) (by show i - t + 1 < b; exact h1) hx (by rw [hwl]; omega) (by show b ≤ 1000; omega)
    rw [hD2] at htk
    refine (feed_many d L S 0 i E wv (oD B b ws i t lat st) _ _ [] w h (by show 0 < 1; decide) (by show 1 ≤ 100; decide) rfl hmay htk (by simp) s hs).mono ?_
    rintro e w' ⟨v, wv', he, ho, hD, hF⟩
    exact ⟨v, wv', [], t, lat, st, he, ho, hD, by rw [List.append_nil]; exact hH, by omega, by omega, hF⟩
  · have htk : TakeIs d L S E wv (oD B b ws i t lat st) (oD B b ws (i + 1) (i + 1) ((lat + 1) % 2) (st % 3 + 1)) 0 i (writeB (ws i) (i + 1)) (flA ws ((lat + 1) % 2) (st % 3 + 1) t (i + 1)) := by
      intro w0 h0
      have := take_flush d L S 0 i E wv (oD B b ws i t lat st) (writeB (ws i) (i + 1)) (writeB (ws i) (i + 1)) _ w0 h0 (by show 0 < 1; decide) rfl (by omega) (by show 1 < 256; decide) (by show i ≤ 1000000; omega) (by rw [writeB_size]; omega) hdo (by rw [hwl]; exact h1) (by show i - t ≤ 1000; omega) hx (by rw [hwl]; omega) (flA ws ((lat + 1) % 2) (st % 3 + 1) t (i + 1)) (oD B b ws (i + 1) (i + 1) ((lat + 1) % 2) (st % 3 + 1)) (by rw [flA_len]; omega) (by rw [flA_len]; omega) (by
          intro w1 v1 h1'
          rw [hD2] at h1'
          exact oSave d L S E v1 w1 h1' (by omega) (by omega) (by omega) hl.2.1 hl.2.2)
      refine this.mono ?_
      rintro e w' ⟨v, he, ho, hD, hF⟩
      exact ⟨v, _, he, ho, fun e0 => by have := congrArg List.length e0; rw [flA_len] at this; simp at this, hD, hF⟩
    refine (feed_many d L S 0 i E wv (oD B b ws i t lat st) _ _ _ w h (by show 0 < 1; decide) (by show 1 ≤ 100; decide) rfl hmay htk (by rw [flA_len]; omega) s hs).mono ?_
    rintro e w' ⟨v, wv', he, ho, hD, hF⟩
    exact ⟨v, wv', _, i + 1, _, _, he, ho, hD, .flush hH (by omega), by omega, by omega, hF⟩
end
end Go.Proofs.YtcpldcojckhapaaGreat
