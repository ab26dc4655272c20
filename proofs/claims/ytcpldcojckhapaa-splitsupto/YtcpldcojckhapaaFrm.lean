/-
  Package frame's small functions: what they answer.
-/
import Derived.Test.YtcpldcojckhapaaUab
set_option maxRecDepth 100000
namespace Go.Proofs.Ytcpldcojckhapaa
open Go.RowKit

set_option maxHeartbeats 1000000 in
theorem streamFrame_any (s : ByteArray) (w : World) (h1 : 7 ≤ s.size) (hs : s.size ≤ 4194304) :
    Calls Try.prog 35 #[.string s] w fun e w' => e = .returned (.agg #[.int .i64 (256 * Pl.byt s 0 + Pl.byt s 1 : Nat), .int .i64 (Pl.byt s 6 : Nat), .string (s.extract 7 s.size)]) ∧ Below w.heap.size w w' := by
  have hp0 : 0 < s.size := by omega
  have hp1 : 1 < s.size := by omega
  have gb := Pl.get_byt s
  have hb0 := Pl.byt_lt s 0
  have hb1 := Pl.byt_lt s 1
  have e1 := Pl.byt_extract s 6 s.size 0 (Nat.le_refl _) (by omega)
  have e2 := Pl.extract_extract s 6 s.size 1 (s.size - 6) (by omega)
  rw [show 6 + (s.size - 6) = s.size by omega] at e2
  go_enter Try.func35, Try.ntmps35
  go_wp2_with fail
  refine (unitAndBody_any _ _ (by simp; omega) (by simp; omega)).mono ?_
  rintro e w1 ⟨rfl, hb⟩
  obtain ⟨hc, hf⟩ := bcell hb
  have hz : w.heap.size < w1.heap.size := by have := hb.size; simp at this; omega
  go_wp2
  go_region
  all_goals go_wp2
  all_goals
    have eo : bits BinOp.or IntKind.i64 ((Pl.byt s 0 : Int) * 256) (Pl.byt s 1) = (256 * Pl.byt s 0 + Pl.byt s 1 : Nat) := Pl.i64_word _ _ hb0 hb1
    refine bodyPost_ret (v := .agg #[.int .i64 (256 * Pl.byt s 0 + Pl.byt s 1 : Nat), .int .i64 (Pl.byt s 6 : Nat), .string (s.extract 7 s.size)]) (by simp [results, Try.results35, go_sem, hc, hz, eo]) rfl ⟨rfl, ?_⟩
    exact (((((((Below.refl _ _).alloc (Nat.le_refl _) _).trans (hb.mono (by simp))).setCell (Nat.le_refl _) _).setCell (Nat.le_refl _) _).setCell (Nat.le_refl _) _).alloc (by simp; omega) _).drew

theorem rbool {a b : Bool} (h : a = b) : Ending.returned (.bool a) = .returned (.bool b) := by rw [h]

set_option maxHeartbeats 1000000 in
theorem breaks_any (s : ByteArray) (w : World) (hs : s.size ≤ 4194304) :
    Calls Try.prog 36 #[.string s] w fun e w' => e = .returned (.bool (Pl.brk s)) ∧ w' = w := by
  have gb := Pl.get_byt s
  go_enter Try.func36, Try.ntmps36
  go_wp2
  go_loop [3] (fun i => ∃ k : Nat, 2 ≤ k ∧ k ≤ 5 ∧ i = .int .i64 k ∧ Hid ((2 < k → Pl.byt s 2 = 0) ∧ (3 < k → Pl.byt s 3 = 0) ∧ (4 < k → Pl.byt s 4 = 0))) (fun i => 5 - (intOf i).toNat)
  case atStart => exact ⟨2, by omega, by omega, rfl, by simp [Hid]⟩
  case round =>
    obtain ⟨k, hk2, hk5, rfl, hz⟩ := hrel
    by_cases h5 : k < 5
    · by_cases hlt : k < s.size
      · by_cases h0 : Pl.byt s k = 0
        · have t1 : ((Pl.byt s k : Int) != 0) = false := by simp; omega
          have H0 : Hid (Pl.byt s k = 0) := h0
          clear h0
          go_wp2
          go_round
          case rel => exact ⟨k + 1, by omega, by omega, by go_num, by
            have hz := hz.out; have h0 := H0.out
            refine ⟨fun h => ?_, fun h => ?_, fun h => ?_⟩
            · by_cases e : k = 2
              · subst e; exact h0
              · exact hz.1 (by omega)
            · by_cases e : k = 3
              · subst e; exact h0
              · exact hz.2.1 (by omega)
            · by_cases e : k = 4
              · subst e; exact h0
              · exact hz.2.2 (by omega)⟩
          case measure => simp [intOf]; omega
        · have t1 : ((Pl.byt s k : Int) != 0) = true := by simp; omega
          have HB : Hid (Pl.brk s = true) := Pl.brk_true s (by
            rcases (show k = 2 ∨ k = 3 ∨ k = 4 by omega) with e | e | e
            · subst e; exact .inl h0
            · subst e; exact .inr (.inl h0)
            · subst e; exact .inr (.inr (.inl h0)))
          clear h0
          go_wp2
          go_ret
          exact ⟨rbool HB.out.symm, rfl⟩
      · have HB : Hid (Pl.brk s = false) := Pl.brk_false s (Classical.byContradiction fun h => h (if e : 2 < k then hz.out.1 e else Pl.byt_end s 2 (by omega))) (if e : 3 < k then hz.out.2.1 e else Pl.byt_end s 3 (by omega)) (if e : 4 < k then hz.out.2.2 e else Pl.byt_end s 4 (by omega)) (fun h => by omega)
        have hl5 : ¬ 5 < s.size := by omega
        go_wp2
        go_ret
        exact ⟨rbool HB.out.symm, rfl⟩
    · have hz2 := hz.out.1 (by omega)
      have hz3 := hz.out.2.1 (by omega)
      have hz4 := hz.out.2.2 (by omega)
      by_cases hl5 : 5 < s.size
      · by_cases hlo : Pl.byt s 5 < 2
        · have HB : Hid (Pl.brk s = true) := Pl.brk_true s (.inr (.inr (.inr ⟨hl5, .inl hlo⟩)))
          clear hz2 hz3 hz4
          go_wp2
          go_ret
          exact ⟨rbool HB.out.symm, rfl⟩
        · by_cases hhi : 254 < Pl.byt s 5
          · have HB : Hid (Pl.brk s = true) := Pl.brk_true s (.inr (.inr (.inr ⟨hl5, .inr hhi⟩)))
            clear hz2 hz3 hz4
            go_wp2
            go_ret
            exact ⟨rbool (by rw [HB.out]; simp; omega), rfl⟩
          · have HB : Hid (Pl.brk s = false) := Pl.brk_false s hz2 hz3 hz4 (fun _ => by omega)
            clear hz2 hz3 hz4
            go_wp2
            go_ret
            exact ⟨rbool (by rw [HB.out]; simp; omega), rfl⟩
      · have HB : Hid (Pl.brk s = false) := Pl.brk_false s hz2 hz3 hz4 (fun _ => by omega)
        clear hz2 hz3 hz4
        go_wp2
        go_ret
        exact ⟨rbool HB.out.symm, rfl⟩

set_option maxHeartbeats 1000000 in
theorem wholeSize_any (s : ByteArray) (w : World) (hs : s.size ≤ 4194304) :
    Calls Try.prog 34 #[.string s] w fun e w' => e = .returned (.int .i64 (Pl.whole s : Nat)) ∧ w' = w := by
  have gb := Pl.get_byt s
  have hb5 := Pl.byt_lt s 5
  by_cases h6 : s.size < 6
  · have HB : Hid (Pl.whole s = 0) := by show _ = _; unfold Pl.whole; rw [if_pos (.inl h6)]
    go_enter Try.func34, Try.ntmps34
    go_wp2
    go_ret
    exact ⟨rint (by rw [HB.out]; rfl), rfl⟩
  · cases hbrk : Pl.brk s
    · by_cases hw : s.size < 6 + Pl.byt s 5
      · have HB : Hid (Pl.whole s = 0) := by show _ = _; unfold Pl.whole; rw [if_neg (by simp [hbrk]; omega), if_pos hw]
        go_enter Try.func34, Try.ntmps34
        go_wp2_with fail
        refine (breaks_any s _ hs).mono ?_
        rintro e w' ⟨rfl, rfl⟩
        rw [hbrk]; clear hbrk
        go_wp2
        go_ret
        exact ⟨rint (by rw [HB.out]; rfl), rfl⟩
      · have HB : Hid (Pl.whole s = 6 + Pl.byt s 5) := by show _ = _; unfold Pl.whole; rw [if_neg (by simp [hbrk]; omega), if_neg hw]
        go_enter Try.func34, Try.ntmps34
        go_wp2_with fail
        refine (breaks_any s _ hs).mono ?_
        rintro e w' ⟨rfl, rfl⟩
        rw [hbrk]; clear hbrk
        go_wp2
        go_ret
        exact ⟨rint (by rw [HB.out]; omega), rfl⟩
    · have HB : Hid (Pl.whole s = 0) := by show _ = _; unfold Pl.whole; rw [if_pos (.inr hbrk)]
      go_enter Try.func34, Try.ntmps34
      go_wp2_with fail
      refine (breaks_any s _ hs).mono ?_
      rintro e w' ⟨rfl, rfl⟩
      rw [hbrk]; clear hbrk
      go_wp2
      go_ret
      exact ⟨rint (by rw [HB.out]; rfl), rfl⟩
end Go.Proofs.Ytcpldcojckhapaa
