/-
  Package frame's small functions: what they answer.
  frame.Split: what it answers: the requests with which the bytes begin, in new memory.
-/
import Derived.Test.YtcpldcojckhapaaGreatJ31
import Derived.Deep.DeepMust
set_option maxRecDepth 100000
namespace Go.Proofs.YtcpldcojckhapaaGreat
open Go.RowKit

set_option maxRecDepth 100000 in
set_option maxHeartbeats 1000000 in
theorem streamFrame_any (s : ByteArray) (w : World) (h1 : 7 ≤ s.size) (hs : s.size ≤ 4194304) :
    Calls Tryz.prog 110 #[.string s] w fun e w' => e = .returned (.agg #[.int .i64 (256 * Pl.byt s 0 + Pl.byt s 1 : Nat), .int .i64 (Pl.byt s 6 : Nat), .string (s.extract 7 s.size)]) ∧ Below w.heap.size w w' := by
  have hp0 : 0 < s.size := by omega
  have hp1 : 1 < s.size := by omega
  have gb := Pl.get_byt s
  have hb0 := Pl.byt_lt s 0
  have hb1 := Pl.byt_lt s 1
  have e1 := Pl.byt_extract s 6 s.size 0 (Nat.le_refl _) (by omega)
  have e2 := Pl.extract_extract s 6 s.size 1 (s.size - 6) (by omega)
  rw [show 6 + (s.size - 6) = s.size by omega] at e2
  go_enter Tryz.func110, Tryz.ntmps110
  go_wp2_with fail
  refine (unitAndBody_any _ _ (by simp; omega) (by simp; omega)).mono ?_
  rintro e w1 ⟨rfl, hb⟩
  obtain ⟨hc, hf⟩ := bcell hb
  have hz : w.heap.size < w1.heap.size := by have := hb.size; simp at this; omega
  go_wp2
  go_region
  all_goals go_wp2
  all_goals
    have eo : bits BinOp.or IntKind.i64 ((Pl.byt s 0 : Int) * 256) (Pl.byt s 1) = (256 * Pl.byt s 0 + Pl.byt s 1 : Nat) := Pl.i64_word _ _ hb0 hb1
    refine bodyPost_ret (v := .agg #[.int .i64 (256 * Pl.byt s 0 + Pl.byt s 1 : Nat), .int .i64 (Pl.byt s 6 : Nat), .string (s.extract 7 s.size)]) (by simp [results, Tryz.results110, go_sem, hc, hz, eo]) rfl ⟨rfl, ?_⟩
    exact (((((((Below.refl _ _).alloc (Nat.le_refl _) _).trans (hb.mono (by simp))).setCell (Nat.le_refl _) _).setCell (Nat.le_refl _) _).setCell (Nat.le_refl _) _).alloc (by simp; omega) _).drew

set_option maxRecDepth 100000 in
set_option maxHeartbeats 1000000 in
theorem breaks_any (s : ByteArray) (w : World) (hs : s.size ≤ 4194304) :
    Calls Tryz.prog 111 #[.string s] w fun e w' => e = .returned (.bool (Pl.brk s)) ∧ w' = w := by
  have gb := Pl.get_byt s
  go_enter Tryz.func111, Tryz.ntmps111
  go_wp2
  go_loop [3] (fun i => ∃ k : Nat, 2 ≤ k ∧ k ≤ 5 ∧ i = .int .i64 k ∧ Hid ((2 < k → Pl.byt s 2 = 0) ∧ (3 < k → Pl.byt s 3 = 0) ∧ (4 < k → Pl.byt s 4 = 0))) (fun i => 5 - (intOf i).toNat)
  case atStart => exact ⟨2, by omega, by omega, rfl, by simp [Hid]⟩
  case round =>
    obtain ⟨k, hk2, hk5, rfl, hz⟩ := hrel
    by_cases h5 : k < 5
    · by_cases hlt : k < s.size
      · by_cases h0 : Pl.byt s k = 0
        · have t1 : ((Pl.byt s k : Int) != 0) = false := by simp; omega
          have H0 : Hid (Pl.byt s k = 0) := h0
          clear h0
          go_wp2
          go_round
          case rel => exact ⟨k + 1, by omega, by omega, by go_num, by
            have hz := hz.out; have h0 := H0.out
            refine ⟨fun h => ?_, fun h => ?_, fun h => ?_⟩
            · by_cases e : k = 2
              · subst e; exact h0
              · exact hz.1 (by omega)
            · by_cases e : k = 3
              · subst e; exact h0
              · exact hz.2.1 (by omega)
            · by_cases e : k = 4
              · subst e; exact h0
              · exact hz.2.2 (by omega)⟩
          case measure => simp [intOf]; omega
        · have t1 : ((Pl.byt s k : Int) != 0) = true := by simp; omega
          have HB : Hid (Pl.brk s = true) := Pl.brk_true s (by
            rcases (show k = 2 ∨ k = 3 ∨ k = 4 by omega) with e | e | e
            · subst e; exact .inl h0
            · subst e; exact .inr (.inl h0)
            · subst e; exact .inr (.inr (.inl h0)))
          clear h0
          go_wp2
          go_ret
          exact ⟨rbool HB.out.symm, rfl⟩
      · have HB : Hid (Pl.brk s = false) := Pl.brk_false s (Classical.byContradiction fun h => h (if e : 2 < k then hz.out.1 e else Pl.byt_end s 2 (by omega))) (if e : 3 < k then hz.out.2.1 e else Pl.byt_end s 3 (by omega)) (if e : 4 < k then hz.out.2.2 e else Pl.byt_end s 4 (by omega)) (fun h => by omega)
        have hl5 : ¬ 5 < s.size := by omega
        go_wp2
        go_ret
        exact ⟨rbool HB.out.symm, rfl⟩
    · have hz2 := hz.out.1 (by omega)
      have hz3 := hz.out.2.1 (by omega)
      have hz4 := hz.out.2.2 (by omega)
      by_cases hl5 : 5 < s.size
      · by_cases hlo : Pl.byt s 5 < 2
        · have HB : Hid (Pl.brk s = true) := Pl.brk_true s (.inr (.inr (.inr ⟨hl5, .inl hlo⟩)))
          clear hz2 hz3 hz4
          go_wp2
          go_ret
          exact ⟨rbool HB.out.symm, rfl⟩
        · by_cases hhi : 254 < Pl.byt s 5
          · have HB : Hid (Pl.brk s = true) := Pl.brk_true s (.inr (.inr (.inr ⟨hl5, .inr hhi⟩)))
            clear hz2 hz3 hz4
            go_wp2
            go_ret
            exact ⟨rbool (by rw [HB.out]; simp; omega), rfl⟩
          · have HB : Hid (Pl.brk s = false) := Pl.brk_false s hz2 hz3 hz4 (fun _ => by omega)
            clear hz2 hz3 hz4
            go_wp2
            go_ret
            exact ⟨rbool (by rw [HB.out]; simp; omega), rfl⟩
      · have HB : Hid (Pl.brk s = false) := Pl.brk_false s hz2 hz3 hz4 (fun _ => by omega)
        clear hz2 hz3 hz4
        go_wp2
        go_ret
        exact ⟨rbool HB.out.symm, rfl⟩

set_option maxRecDepth 100000 in
set_option maxHeartbeats 1000000 in
theorem wholeSize_any (s : ByteArray) (w : World) (hs : s.size ≤ 4194304) :
    Calls Tryz.prog 109 #[.string s] w fun e w' => e = .returned (.int .i64 (Pl.whole s : Nat)) ∧ w' = w := by
  have gb := Pl.get_byt s
  have hb5 := Pl.byt_lt s 5
  by_cases h6 : s.size < 6
  · have HB : Hid (Pl.whole s = 0) := by show _ = _; unfold Pl.whole; rw [if_pos (.inl h6)]
    go_enter Tryz.func109, Tryz.ntmps109
    go_wp2
    go_ret
    exact ⟨rint (by rw [HB.out]; rfl), rfl⟩
  · cases hbrk : Pl.brk s
    · by_cases hw : s.size < 6 + Pl.byt s 5
      · have HB : Hid (Pl.whole s = 0) := by show _ = _; unfold Pl.whole; rw [if_neg (by simp [hbrk]; omega), if_pos hw]
        go_enter Tryz.func109, Tryz.ntmps109
        go_wp2_with fail
        refine (breaks_any s _ hs).mono ?_
        rintro e w' ⟨rfl, rfl⟩
        rw [hbrk]; clear hbrk
        go_wp2
        go_ret
        exact ⟨rint (by rw [HB.out]; rfl), rfl⟩
      · have HB : Hid (Pl.whole s = 6 + Pl.byt s 5) := by show _ = _; unfold Pl.whole; rw [if_neg (by simp [hbrk]; omega), if_neg hw]
        go_enter Tryz.func109, Tryz.ntmps109
        go_wp2_with fail
        refine (breaks_any s _ hs).mono ?_
        rintro e w' ⟨rfl, rfl⟩
        rw [hbrk]; clear hbrk
        go_wp2
        go_ret
        exact ⟨rint (by rw [HB.out]; omega), rfl⟩
    · have HB : Hid (Pl.whole s = 0) := by show _ = _; unfold Pl.whole; rw [if_pos (.inr hbrk)]
      go_enter Tryz.func109, Tryz.ntmps109
      go_wp2_with fail
      refine (breaks_any s _ hs).mono ?_
      rintro e w' ⟨rfl, rfl⟩
      rw [hbrk]; clear hbrk
      go_wp2
      go_ret
      exact ⟨rint (by rw [HB.out]; rfl), rfl⟩
end Go.Proofs.YtcpldcojckhapaaGreat

set_option maxRecDepth 100000
namespace Go.Proofs.YtcpldcojckhapaaGreat
open Go.RowKit

/-- What is owned stays owned where nothing that was there has turned. -/
theorem Tryz.info94 : (Tryz.prog.info? 94).map (fun i => (i.zero, i.size, i.bytes)) = some (some (.agg #[.int .i64 0, .int .i64 0, .string ⟨#[]⟩]), 3, 32) := by kernel_rfl

/-- What both Splits answer, said of plain letters. -/
def SplIs (s : ByteArray) (acc : List Value) (t : Nat) (k : Int) : Prop := Pl.splF s = (acc, t) ∧ k = if Pl.brk (s.extract t s.size) then 4 else 0
/-- What is left behind some requests. -/
def SplAt (s : ByteArray) (f t : Nat) (acc : List Value) : Prop := acc ++ (Pl.spl s f t).1 = (Pl.splF s).1 ∧ (Pl.spl s f t).2 = (Pl.splF s).2
theorem splAt_start (s : ByteArray) : SplAt s (s.size + 1) 0 [] := ⟨rfl, rfl⟩
theorem splAt_step {s : ByteArray} {f t : Nat} {acc : List Value} (h : SplAt s (f + 1) t acc) (hw : Pl.wholeAt s t ≠ 0) : SplAt s f (t + Pl.wholeAt s t) (acc ++ Pl.frAt s t (Pl.wholeAt s t)) := by
  have := h; unfold SplAt at this ⊢; rw [Pl.spl_step s f t hw] at this; exact ⟨by rw [List.append_assoc]; exact this.1, this.2⟩
theorem splAt_stop {s : ByteArray} {f t : Nat} {acc : List Value} (h : SplAt s f t acc) (hw : Pl.wholeAt s t = 0) : Pl.splF s = (acc, t) := by
  have := h; unfold SplAt at this; rw [Pl.spl_stop s f t hw] at this
  exact Prod.ext (by simpa using this.1.symm) this.2.symm

theorem streamFrame_at (s : ByteArray) (t z : Nat) (w : World) (h1 : 8 ≤ z) (h2 : t + z ≤ s.size) (hs : s.size ≤ 4194304) :
    Calls Tryz.prog 110 #[.string (s.extract t (t + z))] w fun e w' => ∃ (p q : Nat) (b : ByteArray), e = .returned (.agg #[.int .i64 (p : Nat), .int .i64 (q : Nat), .string b]) ∧ Hid (Pl.frAt s t z = [.int .i64 (p : Nat), .int .i64 (q : Nat), .string b]) ∧ Below w.heap.size w w' := by
  have hz : (s.extract t (t + z)).size = z := by simp; omega
  refine (streamFrame_any (s.extract t (t + z)) w (by omega) (by omega)).mono ?_
  rintro e w' ⟨rfl, hb⟩
  refine ⟨_, _, _, rfl, ?_, hb⟩
  show Pl.frAt s t z = _
  unfold Pl.frAt
  rw [Pl.byt_extract s t (t + z) 0 h2 (by omega), Pl.byt_extract s t (t + z) 1 h2 (by omega), Pl.byt_extract s t (t + z) 6 h2 (by omega), hz, Pl.extract_extract s t (t + z) 7 z (by omega)]
  rfl

set_option maxRecDepth 100000 in
set_option maxHeartbeats 1000000 in
theorem split_core (s : ByteArray) (w : World) (hs : s.size ≤ 4194304) :
    Calls Tryz.prog 75 #[.string s] w fun e w' => ∃ v n acc t k, e = .returned (.tuple #[v, .int .i64 (t : Nat), .int .i64 k]) ∧
      w'.ownsRow w.heap.size 94 3 v n acc ∧ SplIs s acc t k ∧ n ≤ 524288 ∧ Below w.heap.size w w' := by
  obtain ⟨i0, hi, hz0, hz1, hz2⟩ := info_parts Tryz.info94
  go_enter Tryz.func75, Tryz.ntmps75
  go_wp2_with fail
  refine (wholeSize_any s _ hs).mono ?_
  rintro e w' ⟨rfl, rfl⟩
  go_wp2_with fail
  go_loopw [5, 6, 7] (fun v t z wr => ∃ at_ n f acc zz, at_ ≤ s.size ∧ 8 * n ≤ at_ ∧ t = .int .i64 (at_ : Nat) ∧ z = .int .i64 (zz : Nat) ∧ Hid (zz = Pl.wholeAt s at_) ∧ wr.ownsRow w'.heap.size 94 3 v n acc ∧ s.size < at_ + f ∧
    SplAt s f at_ acc ∧ Below w'.heap.size w' wr) (fun _ t _ _ => s.size - (intOf t).toNat)
  case atStart => exact ⟨0, 0, s.size + 1, [], Pl.whole s, by omega, by omega, rfl, rfl, (Pl.wholeAt_zero s).symm, World.ownsRow_nil _ _ _ _, by omega, splAt_start s, Below.refl _ _⟩
  case round =>
    obtain ⟨t, n, f, acc, z, ht, hn, rfl, rfl, HZ, hown, hf, HS, hbel⟩ := hrel
    by_cases hw : z = 0
    · have HE : Hid (Pl.splF s = (acc, t)) := splAt_stop HS (by rw [← HZ.out]; exact hw)
      subst hw
      clear HS HZ
      cases hbrk : Pl.brk (s.extract t s.size)
      · have HK : SplIs s acc t 0 := ⟨HE.out, by rw [hbrk]; rfl⟩
        clear HE
        go_wp2_with fail
        refine (breaks_any _ _ (by simp; omega)).mono ?_
        rintro e w2 ⟨rfl, rfl⟩
        rw [hbrk]
        clear hbrk
        go_wp2
        go_ret3
        exact ⟨u5, n, acc, t, 0, rfl, hown, HK, by omega, hbel⟩
      · have HK : SplIs s acc t 4 := ⟨HE.out, by rw [hbrk]; rfl⟩
        clear HE
        go_wp2_with fail
        refine (breaks_any _ _ (by simp; omega)).mono ?_
        rintro e w2 ⟨rfl, rfl⟩
        rw [hbrk]
        clear hbrk
        go_wp2
        go_ret3
        exact ⟨u5, n, acc, t, 4, rfl, hown, HK, by omega, hbel⟩
    · have hw0 : Pl.wholeAt s t ≠ 0 := by rw [← HZ.out]; exact hw
      have hwb := Pl.wholeAt_bd s t hw0
      rw [← HZ.out] at hwb
      obtain ⟨hw1, hw2, hw3⟩ := hwb
      obtain ⟨f, rfl⟩ : ∃ g, f = g + 1 := ⟨f - 1, by omega⟩
      have HN := splAt_step HS hw0
      rw [← HZ.out] at HN
      clear HS hw0 HZ
      go_wp2_with fail
      refine (streamFrame_at s t z _ hw1 hw3 hs).mono ?_
      rintro e w2 ⟨p, q, b, rfl, HF, hb2⟩
      rw [HF.out] at HN
      have hown2 : w2.ownsRow w'.heap.size 94 3 u5 n acc := ownsRow_below hown hb2
      have hbel2 : Below w'.heap.size w' w2 := hbel.trans (hb2.mono hbel.size)
      have hsz2 := hbel2.size
      clear hown hbel hb2 HF
      go_wp2_with (at_builtin; refine wpList_append_own _ rfl (.tmp 16) (.tmp 24) 29 rfl w'.heap.size 94 i0 (.agg #[.int .i64 0, .int .i64 0, .string ⟨#[]⟩]) 3 32 Tryz.underlying29 hi hz0 hz1 hz2 rfl (by decide) u5 n acc rfl (hown2.alloc _) ⟨w2.heap.size, 0, none⟩ 1 1 [.int .i64 (p : Nat), .int .i64 (q : Nat), .string b] rfl rfl (cell_three_new _ _ _ _ _) (by intro u hu; simp at hu; rcases hu with rfl | rfl | rfl <;> rfl) (by unfold maxLen; omega) (by omega) (by simp; omega) ?_; intro v' w3 hown3 hgrow3 _)
      refine (wholeSize_any _ _ (by simp; omega)).mono ?_
      rintro e w4 ⟨rfl, rfl⟩
      have hbel3 : Below w'.heap.size w' w4 := (hbel2.alloc hsz2 _).grown hgrow3 (by simp; omega) (fun k hk => (hown2.lt k hk).1)
      clear hown2 hbel2 hgrow3
      go_wp2
      go_roundw
      case rel => exact ⟨t + z, n + 1, f, _, Pl.whole (s.extract (t + z) s.size), by omega, by omega, by go_num, rfl, rfl, hown3, by omega, HN, hbel3⟩
      case measure => simp [intOf]; omega
end Go.Proofs.YtcpldcojckhapaaGreat
