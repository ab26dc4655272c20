/-
  latchref.Split: what it answers: the same as frame.Split.
-/
import Derived.Test.YtcpldcojckhapaaStep
import Derived.Deep.QuietTactic
import Derived.BigQuiet
set_option maxRecDepth 100000
namespace Go.Proofs.Ytcpldcojckhapaa
open Go.RowKit

set_option maxHeartbeats 400000 in
theorem word_any (s : ByteArray) (i : Int) (t : Nat) (w : World) (ht : i = t) (h : t + 1 < s.size) (hs : s.size ≤ 4194304) :
    Calls Try.prog 37 #[.string s, .int .i64 i] w fun e w' => e = .returned (.int .i64 (256 * Pl.byt s t + Pl.byt s (t + 1) : Nat)) ∧ ∃ n, w' = w.drewN n := by
  subst ht
  have gb := Pl.get_byt s
  have h0 := Pl.byt_lt s t
  have h1 := Pl.byt_lt s (t + 1)
  have hlt : t < s.size := by omega
  go_enter Try.func37, Try.ntmps37
  go_wp2
  go_quiet (fail)
  go_wp2
  go_ret
  exact ⟨rint (by omega), _, rfl⟩

theorem word_step (s : ByteArray) (t : Nat) (w : World) (h : t + 1 < s.size) (hs : s.size ≤ 4194304) :
    Calls Try.prog 37 #[.string s, .int .i64 (t : Nat)] w fun e w' => ∃ v, e = .returned v ∧ (v = .int .i64 (256 * Pl.byt s t + Pl.byt s (t + 1) : Nat) ∧ ∃ n, w' = w.drewN n) := by
  refine (word_any s t t w rfl h hs).mono ?_
  rintro e w' ⟨rfl, n, rfl⟩
  exact ⟨_, rfl, rfl, n, rfl⟩
theorem ownsRow_heap {w w' : World} (e0 : w'.heap = w.heap) {base : Nat} {e : TypeId} {size : Nat} {v : Value} {n : Nat} {xs : List Value} (h : w.ownsRow base e size v n xs) : w'.ownsRow base e size v n xs := by
  unfold World.ownsRow at h ⊢
  rw [e0]; exact h
theorem fr_new (s : ByteArray) (t z : Nat) (w : World) (g : Nat) (hg : g = w.heap.size) : ∀ j u, (Pl.frAt s t z)[j]? = some u → (w.alloc (.cells #[.int .i64 (256 * Pl.byt s t + Pl.byt s (t + 1) : Nat), .int .i64 (Pl.byt s (t + 6) : Nat), .string (s.extract (t + 7) (t + z))] 40)).cell? ((⟨g, 0, none⟩ : Addr).add j) = some u := by
  subst hg; exact cell_three_new w _ _ _ 40
theorem fr_one (s : ByteArray) (t z : Nat) : ∀ u ∈ Pl.frAt s t z, u.oneCell' = true := by
  intro u hu; simp [Pl.frAt] at hu; rcases hu with rfl | rfl | rfl <;> rfl
set_option maxRecDepth 100000 in
set_option maxHeartbeats 4000000 in
theorem refSplit_core (s : ByteArray) (w : World) (hs : s.size ≤ 4194304) :
    Calls Try.prog 12 #[.string s] w fun e w' => ∃ v n acc t k, e = .returned (.tuple #[v, .int .i64 (t : Nat), .int .i64 k]) ∧
      w'.ownsRow w.heap.size 40 3 v n acc ∧ SplIs s acc t k ∧ n ≤ 524288 ∧ Below w.heap.size w w' := by
  obtain ⟨i0, hi, hz0, hz1, hz2⟩ := info_parts Try.info40
  have gb := Pl.get_byt s
  go_enter Try.func12, Try.ntmps12
  go_wp2_with fail
  go_loopw [5, 6] (fun v t wr => ∃ at_ n f acc, at_ ≤ s.size ∧ 8 * n ≤ at_ ∧ t = .int .i64 (at_ : Nat) ∧ wr.ownsRow w.heap.size 40 3 v n acc ∧ s.size < at_ + f ∧
    SplAt s f at_ acc ∧ Below w.heap.size w wr) (fun _ t _ => s.size - (intOf t).toNat)
  case atStart => exact ⟨0, 0, s.size + 1, [], by omega, by omega, rfl, World.ownsRow_nil _ _ _ _, by omega, splAt_start s, Below.refl _ _⟩
  case round =>
    obtain ⟨t, n, f, acc, ht, hn, rfl, hown, hf, HS, hbel⟩ := hrel
    have b2 := Pl.byt_lt s (t + 2)
    have b3 := Pl.byt_lt s (t + 3)
    have b4 := Pl.byt_lt s (t + 4)
    have b5 := Pl.byt_lt s (t + 5)
    by_cases hA : Pl.byt s (t + 2) ≠ 0 ∨ Pl.byt s (t + 3) ≠ 0 ∨ Pl.byt s (t + 4) ≠ 0
    · have hbr := Pl.brkAt_true s t (hA.elim .inl fun h => h.elim (fun h => .inr (.inl h)) fun h => .inr (.inr (.inl h)))
      have HK : SplIs s acc t 4 := ⟨splAt_stop HS (Pl.wholeAt_none s t (.inr (.inl hbr))), by rw [hbr]; rfl⟩
      clear HS hbr
      by_cases h2 : Pl.byt s (t + 2) = 0
      · have t2 : ((Pl.byt s (t + 2) : Int) != 0) = false := by simp; omega
        by_cases h3 : Pl.byt s (t + 3) = 0
        · have h4 : Pl.byt s (t + 4) ≠ 0 := by omega
          have t3 : ((Pl.byt s (t + 3) : Int) != 0) = false := by simp; omega
          have t4 : ((Pl.byt s (t + 4) : Int) != 0) = true := by simp; omega
          have hd : t + 4 < s.size := Classical.byContradiction fun h => h4 (Pl.byt_end s _ (by omega))
          clear hA h2 h3 h4
          go_wp2
          go_ret3
          exact ⟨u5, n, acc, t, 4, rfl, hown, HK, by omega, hbel⟩
        · have t3 : ((Pl.byt s (t + 3) : Int) != 0) = true := by simp; omega
          have hd : t + 3 < s.size := Classical.byContradiction fun h => h3 (Pl.byt_end s _ (by omega))
          clear hA h2 h3
          go_wp2
          go_ret3
          exact ⟨u5, n, acc, t, 4, rfl, hown, HK, by omega, hbel⟩
      · have t2 : ((Pl.byt s (t + 2) : Int) != 0) = true := by simp; omega
        have hd : t + 2 < s.size := Classical.byContradiction fun h => h2 (Pl.byt_end s _ (by omega))
        clear hA h2
        go_wp2
        go_ret3
        exact ⟨u5, n, acc, t, 4, rfl, hown, HK, by omega, hbel⟩
    · have h2 : Pl.byt s (t + 2) = 0 := by omega
      have h3 : Pl.byt s (t + 3) = 0 := by omega
      have h4 : Pl.byt s (t + 4) = 0 := by omega
      have t2 : ((Pl.byt s (t + 2) : Int) != 0) = false := by simp; omega
      have t3 : ((Pl.byt s (t + 3) : Int) != 0) = false := by simp; omega
      have t4 : ((Pl.byt s (t + 4) : Int) != 0) = false := by simp; omega
      clear hA
      by_cases h6 : s.size - t < 6
      · have hbr := Pl.brkAt_false s t h2 h3 h4 (fun h => by omega)
        have HK : SplIs s acc t 0 := ⟨splAt_stop HS (Pl.wholeAt_none s t (.inl h6)), by rw [hbr]; rfl⟩
        clear HS hbr h2 h3 h4
        rcases (show s.size ≤ t + 2 ∨ (t + 3 ≤ s.size ∧ s.size ≤ t + 3) ∨ (t + 4 ≤ s.size ∧ s.size ≤ t + 4) ∨ (t + 5 ≤ s.size ∧ s.size ≤ t + 5) by omega) with hd | ⟨hd, hd'⟩ | ⟨hd, hd'⟩ | ⟨hd, hd'⟩
        all_goals
          go_wp2
          go_ret3
          exact ⟨u5, n, acc, t, 0, rfl, hown, HK, by omega, hbel⟩
      · by_cases hlo : Pl.byt s (t + 5) < 2
        · have hbr := Pl.brkAt_true s t (.inr (.inr (.inr ⟨by omega, .inl hlo⟩)))
          have HK : SplIs s acc t 4 := ⟨splAt_stop HS (Pl.wholeAt_none s t (.inr (.inl hbr))), by rw [hbr]; rfl⟩
          clear HS hbr h2 h3 h4
          go_wp2
          go_ret3
          exact ⟨u5, n, acc, t, 4, rfl, hown, HK, by omega, hbel⟩
        · by_cases hhi : 254 < Pl.byt s (t + 5)
          · have hbr := Pl.brkAt_true s t (.inr (.inr (.inr ⟨by omega, .inr hhi⟩)))
            have HK : SplIs s acc t 4 := ⟨splAt_stop HS (Pl.wholeAt_none s t (.inr (.inl hbr))), by rw [hbr]; rfl⟩
            clear HS hbr h2 h3 h4
            go_wp2
            go_ret3
            exact ⟨u5, n, acc, t, 4, rfl, hown, HK, by omega, hbel⟩
          · have hbr := Pl.brkAt_false s t h2 h3 h4 (fun h => by omega)
            by_cases hwh : s.size - t < 6 + Pl.byt s (t + 5)
            · have HK : SplIs s acc t 0 := ⟨splAt_stop HS (Pl.wholeAt_none s t (.inr (.inr hwh))), by rw [hbr]; rfl⟩
              clear HS hbr h2 h3 h4
              go_wp2
              go_ret3
              exact ⟨u5, n, acc, t, 0, rfl, hown, HK, by omega, hbel⟩
            · have hwa := Pl.wholeAt_some s t (by omega) hbr (by omega)
              obtain ⟨f, rfl⟩ : ∃ g, f = g + 1 := ⟨f - 1, by omega⟩
              have HN := splAt_step HS (by omega)
              rw [hwa] at HN
              obtain ⟨k, hk⟩ : ∃ k, k = Pl.byt s (t + 5) := ⟨_, rfl⟩
              have gk : (Pl.byt s (t + 5)) = k := hk.symm
              rw [gk] at HN hwh hhi hlo
              have hsz := hbel.size
              have b6 := Pl.byt_lt s (t + 6)
              have w6 : IntKind.i64.wrap ((t : Int) + 6) = (t : Int) + 6 := by rw [IntKind.wrap_i64]; omega
              have w7 : IntKind.i64.wrap ((t : Int) + 7) = (t : Int) + 7 := by rw [IntKind.wrap_i64]; omega
              have wk : IntKind.i64.wrap ((t : Int) + 6 + (k : Int)) = (t : Int) + 6 + (k : Int) := by rw [IntKind.wrap_i64]; omega
              have wb : IntKind.i64.wrap (Pl.byt s (t + 6) : Int) = Pl.byt s (t + 6) := by rw [IntKind.wrap_i64]; omega
              have l6 : (t : Int) + 6 < s.size := by omega
              have p6 : 0 ≤ (t : Int) + 6 := by omega
              have p7 : 0 ≤ (t : Int) + 7 := by omega
              have l7 : (t : Int) + 7 ≤ (t : Int) + 6 + (k : Int) := by omega
              have lk : (t : Int) + 6 + (k : Int) ≤ s.size := by omega
              have n6 : ((t : Int) + 6).toNat = t + 6 := by omega
              have n7 : ((t : Int) + 7).toNat = t + 7 := by omega
              have nk : ((t : Int) + 6 + (k : Int)).toNat = t + (6 + k) := by omega
              clear HS hbr h2 h3 h4 hwa hk
              go_wp2_with fail
              go_region_law (first
                | (refine step_call rfl 37 #[.tmp 70, .tmp 71] #[9, 3] rfl #[.string s, .int .i64 (t : Nat)] (by simp [Act.eval, Act.put]) (enter23 _ _ _) _ (word_step s t _ (by omega) hs) ?_; rintro v w' ⟨rfl, nq, rfl⟩)
                | (refine step_append_own rfl (.tmp 69) (.tmp 87) 31 rfl w.heap.size 40 i0 (.agg #[.int .i64 0, .int .i64 0, .string ⟨#[]⟩]) 3 32 Try.underlying31 hi hz0 hz1 hz2 rfl (by decide) u5 n acc (by simp [Act.eval]) ((ownsRow_heap rfl hown).alloc _) ⟨wr.heap.size, 0, none⟩ 1 1 (Pl.frAt s t (6 + k)) (by simp [Act.eval]) rfl (fr_new _ _ _ _ _ rfl) (fr_one _ _ _) (by unfold maxLen; omega) (by omega) (by simp; omega) ?_; intro v' w3 hown3 hgrow3))
              all_goals
                have hbel3 : Below w.heap.size w w3 := ((below_drewN hbel _).alloc hsz _).grown hgrow3 (by simp; omega) (fun q hq => (hown.lt q hq).1)
                clear hgrow3 hown w6 w7 wk wb l6 p6 p7 l7 n6 n7 nk t2 t3 t4 gk
                go_wp2
                go_roundw
                case rel => exact ⟨t + (6 + k), n + 1, f, _, by omega, by omega, vint (by omega), hown3, by omega, HN, hbel3⟩
                case measure => simp [intOf]; omega
end Go.Proofs.Ytcpldcojckhapaa
