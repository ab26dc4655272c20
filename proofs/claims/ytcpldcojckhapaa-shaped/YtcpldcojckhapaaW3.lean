/-
  Package pdu: what stands behind each function, one by one: what it answers.
-/
import Derived.Test.YtcpldcojckhapaaW2
namespace Go.Proofs.Ytcpldcojckhapaa
open Go.RowKit

/-- What a part of Shape answers: a shape, its values new memory, and whether the bytes are as they may be. -/
def PartIs (w w' : World) (e : Ending) (ok : Prop) (y : Pl.Shp) : Prop :=
  ∃ (x : Pl.Shp) (v : Value) (r : Bool), e = .returned (.tuple #[shV x v, .bool r]) ∧ w'.ownsRow w.heap.size 3 1 v x.vals.length (x.vals.flatMap encI) ∧ (r = true ↔ ok) ∧ (r = true → x = y) ∧ x.vals.length ≤ 2000 ∧ Below w.heap.size w w'
theorem zeroV (v : Value) : shV Pl.noShp v = .agg #[.int .i64 0, .int .i64 0, .int .i64 0, .int .i64 0, .int .i64 0, .int .i64 0, .int .i64 0, v] := rfl

theorem bel8 {w W : World} {B g : Nat} (h : Below B w W) (hg : B ≤ g) (a0 a1 a2 a3 a4 a5 a6 a7 : Value) : Below B w (((((((((W.setCell ⟨g, 0, none⟩ a0).setCell ⟨g, 1, none⟩ a1).setCell ⟨g, 2, none⟩ a2).setCell ⟨g, 3, none⟩ a3).setCell ⟨g, 4, none⟩ a4).setCell ⟨g, 5, none⟩ a5).setCell ⟨g, 6, none⟩ a6).setCell ⟨g, 7, none⟩ a7)) :=
  (((((((h.setCell (p := ⟨g, 0, none⟩) hg _).setCell (p := ⟨g, 1, none⟩) hg _).setCell (p := ⟨g, 2, none⟩) hg _).setCell (p := ⟨g, 3, none⟩) hg _).setCell (p := ⟨g, 4, none⟩) hg _).setCell (p := ⟨g, 5, none⟩) hg _).setCell (p := ⟨g, 6, none⟩) hg _).setCell (p := ⟨g, 7, none⟩) hg _
theorem own8 {W : World} {g B : Nat} {v : Value} {n : Nat} {xs : List Value} (h : W.ownsRow (g + 1) 3 1 v n xs) (hB : B ≤ g) (a0 a1 a2 a3 a4 a5 a6 a7 : Value) : (((((((((W.setCell ⟨g, 0, none⟩ a0).setCell ⟨g, 1, none⟩ a1).setCell ⟨g, 2, none⟩ a2).setCell ⟨g, 3, none⟩ a3).setCell ⟨g, 4, none⟩ a4).setCell ⟨g, 5, none⟩ a5).setCell ⟨g, 6, none⟩ a6).setCell ⟨g, 7, none⟩ a7)).ownsRow B 3 1 v n xs := by
  refine own_base (own_same h fun k hk => ?_) (Nat.le_succ_of_le hB)
  have hkg : k ≠ g := by have := (h.lt k hk).1; omega
  have e : ∀ (Y : World) (j : Nat) (u : Value), (Y.setCell ⟨g, j, none⟩ u).heap[k]? = Y.heap[k]? := fun Y j u => heap_setCell_other Y _ _ u hkg
  rw [e, e, e, e, e, e, e, e]
theorem cells8 {W : World} {g : Nat} {a0 a1 a2 a3 a4 a5 a6 a7 : Value} (h : W.heap[g]? = some (.cells #[a0, a1, a2, a3, a4, a5, a6, a7] 48 (0, 0))) : (∀ j, W.frozen? ⟨g, j, none⟩ = false) ∧ W.cell? ⟨g, 0, none⟩ = some a0 ∧ W.cell? ⟨g, 1, none⟩ = some a1 ∧ W.cell? ⟨g, 2, none⟩ = some a2 ∧ W.cell? ⟨g, 3, none⟩ = some a3 ∧ W.cell? ⟨g, 4, none⟩ = some a4 ∧ W.cell? ⟨g, 5, none⟩ = some a5 ∧ W.cell? ⟨g, 6, none⟩ = some a6 ∧ W.cell? ⟨g, 7, none⟩ = some a7 :=
  ⟨fun j => frozen_of_row W g j _ 48 h, cell_of_row W g 0 _ 48 (0, 0) h, cell_of_row W g 1 _ 48 (0, 0) h, cell_of_row W g 2 _ 48 (0, 0) h, cell_of_row W g 3 _ 48 (0, 0) h, cell_of_row W g 4 _ 48 (0, 0) h, cell_of_row W g 5 _ 48 (0, 0) h, cell_of_row W g 6 _ 48 (0, 0) h, cell_of_row W g 7 _ 48 (0, 0) h⟩

set_option maxRecDepth 100000 in
set_option maxHeartbeats 1000000 in
theorem reading_any (t m : Nat) (s : ByteArray) (w : World) (hs : s.size ≤ 4194304) (hm : m ≤ 4194304) :
    Calls Try.prog 44 #[.int .i64 (t : Nat), .int .i64 (m : Nat), .string s] w fun e w' => PartIs w w' e (s.size = 4 ∧ 1 ≤ Pl.wd s 2 ∧ Pl.wd s 2 ≤ m) ⟨0, t, Pl.wd s 0, Pl.wd s 2, 0, 0, 0, []⟩ := by
  by_cases h4 : s.size = 4
  · have t4 : ((s.size : Int) != 4) = false := by simp; omega
    have l4 : 4 ≤ s.size := by omega
    have H4 := hideF h4
    clear h4
    go_enter Try.func44, Try.ntmps44
    go_wp2_with fail
    refine (span_any s m _ l4 hs hm).mono ?_
    rintro e w1 ⟨r, rfl, hr0, n1, rfl⟩
    have hr := hideF hr0
    clear hr0
    go_wp2
    refine bodyPost_ret (v := .tuple #[.agg #[.int .i64 0, .int .i64 (t : Nat), .int .i64 (Pl.wd s 0 : Nat), .int .i64 (Pl.wd s 2 : Nat), .int .i64 0, .int .i64 0, .int .i64 0, .slice none 0 0], .bool r]) (by simp [results, Try.results44, go_sem]) rfl
      ⟨⟨0, t, Pl.wd s 0, Pl.wd s 2, 0, 0, 0, []⟩, .slice none 0 0, r, rfl, World.ownsRow_nil _ _ _ _, ?_, fun _ => rfl, by simp, ?_⟩
    · rw [hr.out]; simp [H4.out]
    · exact bel8 (below_drewN (bel_alloc (Below.refl _ _) _) _) (Nat.le_refl _) _ _ _ _ _ _ _ _
  · have t4 : ((s.size : Int) != 4) = true := by simp; omega
    go_enter Try.func44, Try.ntmps44
    go_wp2
    refine bodyPost_ret (v := .tuple #[.agg #[.int .i64 0, .int .i64 0, .int .i64 0, .int .i64 0, .int .i64 0, .int .i64 0, .int .i64 0, .slice none 0 0], .bool false]) (by simp [results, Try.results44, go_sem]) rfl
      ⟨Pl.noShp, .slice none 0 0, false, rfl, World.ownsRow_nil _ _ _ _, by simp [h4], by simp, by simp [Pl.noShp], ?_⟩
    exact (Below.refl _ _).alloc (Nat.le_refl _) _

theorem new_ints (W : World) (x : Int) (B : Nat) (hB : B ≤ W.heap.size) : (W.alloc (.cells #[.int .i64 x] 3)).ownsRow B 3 1 (.slice (some ⟨W.heap.size, 0, none⟩) 1 1) 1 ([x].flatMap encI) :=
  ⟨rfl, .inr ⟨W.heap.size, 1, _, rfl, hB, heap_alloc_new W _, Nat.le_refl _, by unfold maxLen; omega, rfl, rfl⟩⟩
theorem one_facts {w w3 : World} {k : Nat} {x : Int} (hb : Below (((w.alloc (.cells #[.int .i64 0, .int .i64 0, .int .i64 0, .int .i64 0, .int .i64 0, .int .i64 0, .int .i64 0, .slice none 0 0] 48)).drewN k).alloc (.cells #[.int .i64 x] 3)).heap.size (((w.alloc (.cells #[.int .i64 0, .int .i64 0, .int .i64 0, .int .i64 0, .int .i64 0, .int .i64 0, .int .i64 0, .slice none 0 0] 48)).drewN k).alloc (.cells #[.int .i64 x] 3)) w3) :
    w3.heap[w.heap.size]? = some (.cells #[.int .i64 0, .int .i64 0, .int .i64 0, .int .i64 0, .int .i64 0, .int .i64 0, .int .i64 0, .slice none 0 0] 48 (0, 0)) ∧ w3.ownsRow (w.heap.size + 1) 3 1 (.slice (some ⟨w.heap.size + 1, 0, none⟩) 1 1) 1 ([x].flatMap encI) ∧ Below w.heap.size w w3 := by
  obtain ⟨X, hX⟩ : ∃ X, X = w.alloc (.cells #[.int .i64 0, .int .i64 0, .int .i64 0, .int .i64 0, .int .i64 0, .int .i64 0, .int .i64 0, .slice none 0 0] 48) := ⟨_, rfl⟩
  have hXs : X.heap.size = w.heap.size + 1 := by rw [hX]; simp
  have hXb : Below w.heap.size w X := by rw [hX]; exact bel_alloc (Below.refl _ _) _
  have hXg : X.heap[w.heap.size]? = some (.cells #[.int .i64 0, .int .i64 0, .int .i64 0, .int .i64 0, .int .i64 0, .int .i64 0, .int .i64 0, .slice none 0 0] 48 (0, 0)) := by rw [hX]; exact heap_alloc_new w _
  rw [← hX] at hb
  clear hX
  obtain ⟨Y, hY⟩ : ∃ Y, Y = (X.drewN k).alloc (.cells #[.int .i64 x] 3) := ⟨_, rfl⟩
  have hYb : Below X.heap.size X Y := by rw [hY]; exact bel_alloc (below_drewN (Below.refl _ _) _) _
  have hYo : Y.ownsRow (w.heap.size + 1) 3 1 (.slice (some ⟨w.heap.size + 1, 0, none⟩) 1 1) 1 ([x].flatMap encI) := by rw [hY, ← hXs]; exact new_ints (X.drewN k) x _ (Nat.le_refl _)
  rw [← hY] at hb
  clear hY
  exact ⟨(hb.block w.heap.size (by have := hYb.size; omega)).trans ((hYb.block w.heap.size (by omega)).trans hXg), ownsRow_below hYo hb, bel_then (bel_then hXb hYb) hb⟩

set_option maxRecDepth 100000 in
set_option maxHeartbeats 1000000 in
theorem settingCoil_any (s : ByteArray) (w : World) (_hs : s.size ≤ 4194304) :
    Calls Try.prog 45 #[.string s] w fun e w' => PartIs w w' e (s.size = 4 ∧ (Pl.wd s 2 = 0 ∨ Pl.wd s 2 = 65280)) ⟨0, 0, 0, 0, 0, Pl.wd s 0, 1, [((Pl.wd s 2 / 65280 : Nat) : Int)]⟩ := by
  by_cases h4 : s.size = 4
  · have t4 : ((s.size : Int) != 4) = false := by simp; omega
    have l4 : 2 ≤ s.size := by omega
    have l2 : (2 : Int) ≤ s.size := by omega
    have lz : 2 ≤ (s.extract 2 s.size).size := by simp; omega
    have H4 := hideF h4
    clear h4
    go_enter Try.func45, Try.ntmps45
    go_wp2_with fail
    refine (pword_any (s.extract 2 s.size) _ lz).mono ?_
    rintro e w1 ⟨rfl, n1, rfl⟩
    rw [wd_behind]
    obtain ⟨V, hV⟩ : ∃ V, V = Pl.wd s 2 := ⟨_, rfl⟩
    rw [← hV]
    have HV := hideF hV
    have hVl : V < 65536 := by rw [hV]; exact Pl.wd_lt s 2
    clear hV
    by_cases h0 : V = 0
    · clear hVl
      subst h0
      go_wp2_with fail
      refine (pword_any s _ l4).mono ?_
      rintro e w2 ⟨rfl, n2, rfl⟩
      go_wp2_with fail
      refine (setting_any 0 (Pl.wd s 0) 1 _ 1 _ (by omega)).mono ?_
      rintro e w3 ⟨rfl, hb3⟩
      obtain ⟨hYg, how, hbw⟩ := one_facts hb3
      obtain ⟨hz, c0, c1, c2, c3, c4, c5, c6, c7⟩ := cells8 hYg
      clear hb3 hYg
      go_wp2
      refine bodyPost_ret (v := .tuple #[.agg #[.int .i64 0, .int .i64 0, .int .i64 0, .int .i64 0, .int .i64 0, .int .i64 (Pl.wd s 0 : Nat), .int .i64 1, .slice (some ⟨w.heap.size + 1, 0, none⟩) 1 1], .bool true]) (by simp [results, Try.results45, go_sem, c0, c1, c2, c3, c4, c5, c6, c7]) rfl
        ⟨⟨0, 0, 0, 0, 0, Pl.wd s 0, 1, [0]⟩, _, true, rfl, own8 how (Nat.le_refl _) _ _ _ _ _ _ _ _, ?_, ?_, by simp, bel8 hbw (Nat.le_refl _) _ _ _ _ _ _ _ _⟩
      · simp [H4.out, ← HV.out]
      · simp [← HV.out]
    · have t0 : ((V : Int) != 0) = true := by simp; omega
      clear h0
      by_cases h0 : V = 65280
      · clear hVl
        subst h0
        go_wp2_with fail
        refine (pword_any s _ l4).mono ?_
        rintro e w2 ⟨rfl, n2, rfl⟩
        go_wp2_with fail
        refine (setting_any 0 (Pl.wd s 0) 1 _ 1 _ (by omega)).mono ?_
        rintro e w3 ⟨rfl, hb3⟩
        obtain ⟨hYg, how, hbw⟩ := one_facts hb3
        obtain ⟨hz, c0, c1, c2, c3, c4, c5, c6, c7⟩ := cells8 hYg
        clear hb3 hYg
        go_wp2
        refine bodyPost_ret (v := .tuple #[.agg #[.int .i64 0, .int .i64 0, .int .i64 0, .int .i64 0, .int .i64 0, .int .i64 (Pl.wd s 0 : Nat), .int .i64 1, .slice (some ⟨w.heap.size + 1, 0, none⟩) 1 1], .bool true]) (by simp [results, Try.results45, go_sem, c0, c1, c2, c3, c4, c5, c6, c7]) rfl
          ⟨⟨0, 0, 0, 0, 0, Pl.wd s 0, 1, [1]⟩, _, true, rfl, own8 how (Nat.le_refl _) _ _ _ _ _ _ _ _, ?_, ?_, by simp, bel8 hbw (Nat.le_refl _) _ _ _ _ _ _ _ _⟩
        · simp [H4.out, ← HV.out]
        · simp [← HV.out]
      · have t1 : ((V : Int) != 65280) = true := by simp; omega
        go_wp2
        refine bodyPost_ret (v := .tuple #[.agg #[.int .i64 0, .int .i64 0, .int .i64 0, .int .i64 0, .int .i64 0, .int .i64 0, .int .i64 0, .slice none 0 0], .bool false]) (by simp [results, Try.results45, go_sem]) rfl
          ⟨Pl.noShp, .slice none 0 0, false, rfl, World.ownsRow_nil _ _ _ _, ?_, by simp, by simp [Pl.noShp], bel8 (below_drewN (bel_alloc (Below.refl _ _) _) _) (Nat.le_refl _) _ _ _ _ _ _ _ _⟩
        simp at t0 t1
        rw [← HV.out]
        simp
        omega
  · have t4 : ((s.size : Int) != 4) = true := by simp; omega
    go_enter Try.func45, Try.ntmps45
    go_wp2
    refine bodyPost_ret (v := .tuple #[.agg #[.int .i64 0, .int .i64 0, .int .i64 0, .int .i64 0, .int .i64 0, .int .i64 0, .int .i64 0, .slice none 0 0], .bool false]) (by simp [results, Try.results45, go_sem]) rfl
      ⟨Pl.noShp, .slice none 0 0, false, rfl, World.ownsRow_nil _ _ _ _, by simp [h4], by simp, by simp [Pl.noShp], ?_⟩
    exact (Below.refl _ _).alloc (Nat.le_refl _) _

theorem enter51 (x y z : Value) (w : World) : (callFunc 65 #[x, y, z]).run Try.prog w = .ok (.enter 65 #[x, y, z]) w := by kernel_rfl
theorem setting_step (t a n : Nat) (ad : Option Addr) (c : Nat) (w : World) (hn : n ≤ 4194304) :
    Calls Try.prog 65 #[.int .i64 (t : Nat), .int .i64 (a : Nat), .slice ad n c] w fun e w' => ∃ v, e = .returned v ∧ (v = .agg #[.int .i64 0, .int .i64 0, .int .i64 0, .int .i64 0, .int .i64 (t : Nat), .int .i64 (a : Nat), .int .i64 (n : Nat), .slice ad n c] ∧ Below w.heap.size w w') := by
  refine (setting_any t a n ad c w hn).mono ?_
  rintro e w' ⟨rfl, hb⟩
  exact ⟨_, rfl, rfl, hb⟩
set_option maxRecDepth 100000 in
set_option maxHeartbeats 2000000 in
theorem settingHolder_any (s : ByteArray) (w : World) (_hs : s.size ≤ 4194304) :
    Calls Try.prog 46 #[.string s] w fun e w' => PartIs w w' e (s.size = 4) ⟨0, 0, 0, 0, 2, Pl.wd s 0, 1, [((Pl.wd s 2 : Nat) : Int)]⟩ := by
  by_cases h4 : s.size = 4
  · have t4 : ((s.size : Int) != 4) = false := by simp; omega
    have hl : 2 ≤ s.size := by omega
    have hl' : (2 : Int) ≤ s.size := by omega
    have lz : 2 ≤ (s.extract 2 s.size).size := by simp; omega
    have c2 : ∀ W : World, Calls Try.prog 64 #[.string (s.extract 2 s.size)] W fun e w' => ∃ v, e = .returned v ∧ (v = .int .i64 (Pl.wd s 2 : Nat) ∧ ∃ n, w' = W.drewN n) := fun W => by
      have := pword_step (s.extract 2 s.size) W lz
      rwa [wd_behind] at this
    have H4 := hideF h4
    clear h4
    go_enter Try.func46, Try.ntmps46
    go_wp2_with fail
    go_region_law (first
      | (refine step_call rfl 64 #[.tmp 8] #[9] rfl #[.string s] (by simp [Act.eval, Act.put]) (enter50 _ _) _ (pword_step s _ hl) ?_; rintro v w1 ⟨rfl, n1, rfl⟩)
      | (refine step_call rfl 64 #[.tmp 11] #[9] rfl #[.string (s.extract 2 s.size)] (by simp [Act.eval]) (enter50 _ _) _ (c2 _) ?_; rintro v w2 ⟨rfl, n2, rfl⟩)
      | (refine step_call rfl 65 #[.const (.int .i64 2), .tmp 9, .tmp 13] #[3, 3, 30] rfl #[.int .i64 2, .int .i64 (Pl.wd s 0 : Nat), .slice (some ⟨w.heap.size + 1, 0, none⟩) 1 1] (by simp [Act.eval]) (enter51 _ _ _ _) _ (setting_step 2 (Pl.wd s 0) 1 (some ⟨w.heap.size + 1, 0, none⟩) 1 _ (by omega)) ?_; rintro v w3 ⟨rfl, hb3⟩; obtain ⟨hYg, how, hbw⟩ := one_facts hb3; obtain ⟨hz, c0, c1, c2, c3, c4, c5, c6, c7⟩ := cells8 hYg; clear hb3 hYg))
    all_goals go_wp2
    all_goals
      refine bodyPost_ret (v := .tuple #[.agg #[.int .i64 0, .int .i64 0, .int .i64 0, .int .i64 0, .int .i64 2, .int .i64 (Pl.wd s 0 : Nat), .int .i64 1, .slice (some ⟨w.heap.size + 1, 0, none⟩) 1 1], .bool true]) (by simp [results, Try.results46, go_sem, c0, c1, c2, c3, c4, c5, c6, c7]) rfl
        ⟨⟨0, 0, 0, 0, 2, Pl.wd s 0, 1, [((Pl.wd s 2 : Nat) : Int)]⟩, _, true, rfl, own8 how (Nat.le_refl _) _ _ _ _ _ _ _ _, ?_, ?_, by simp, bel8 hbw (Nat.le_refl _) _ _ _ _ _ _ _ _⟩
    all_goals simp [H4.out]
  · have t4 : ((s.size : Int) != 4) = true := by simp; omega
    go_enter Try.func46, Try.ntmps46
    go_wp2
    refine bodyPost_ret (v := .tuple #[.agg #[.int .i64 0, .int .i64 0, .int .i64 0, .int .i64 0, .int .i64 0, .int .i64 0, .int .i64 0, .slice none 0 0], .bool false]) (by simp [results, Try.results46, go_sem]) rfl
      ⟨Pl.noShp, .slice none 0 0, false, rfl, World.ownsRow_nil _ _ _ _, by simp [h4], by simp, by simp [Pl.noShp], ?_⟩
    exact (Below.refl _ _).alloc (Nat.le_refl _) _
end Go.Proofs.Ytcpldcojckhapaa
