/-
  frame.Split: what it answers: the requests with which the bytes begin, in new memory.
-/
import Derived.Test.YtcpldcojckhapaaFrm
import Derived.Deep.DeepMust
set_option maxRecDepth 100000
namespace Go.Proofs.Ytcpldcojckhapaa
open Go.RowKit

/-- What is owned stays owned where nothing that was there has turned. -/
theorem ownsRow_below {w w' : World} {base : Nat} {e : TypeId} {size : Nat} {v : Value} {n : Nat} {xs : List Value} (h : w.ownsRow base e size v n xs) (hb : Below w.heap.size w w') : w'.ownsRow base e size v n xs := by
  refine ⟨h.1, ?_⟩
  rcases h.2 with h0 | ⟨g, cap, cur, hv, hg, hh, h1, h2, h3, h4⟩
  · exact .inl h0
  · exact .inr ⟨g, cap, cur, hv, hg, (hb.block g (lt_of_block hh)).trans hh, h1, h2, h3, h4⟩
theorem cell_three_new (w : World) (a b c : Value) (t : TypeId) : ∀ j u, [a, b, c][j]? = some u → (w.alloc (.cells #[a, b, c] t)).cell? ((⟨w.heap.size, 0, none⟩ : Addr).add j) = some u := by
  intro j u hj
  match j, hj with
  | 0, hj => simp at hj; subst hj; simp [Addr.add]
  | 1, hj => simp at hj; subst hj; simp [Addr.add]
  | 2, hj => simp at hj; subst hj; simp [Addr.add]

theorem Try.info40 : (Try.prog.info? 40).map (fun i => (i.zero, i.size, i.bytes)) = some (some (.agg #[.int .i64 0, .int .i64 0, .string ⟨#[]⟩]), 3, 32) := by kernel_rfl

/-- What both Splits answer, said of plain letters. -/
def SplIs (s : ByteArray) (acc : List Value) (t : Nat) (k : Int) : Prop := Pl.splF s = (acc, t) ∧ k = if Pl.brk (s.extract t s.size) then 4 else 0
/-- What is left behind some requests. -/
def SplAt (s : ByteArray) (f t : Nat) (acc : List Value) : Prop := acc ++ (Pl.spl s f t).1 = (Pl.splF s).1 ∧ (Pl.spl s f t).2 = (Pl.splF s).2
theorem splAt_start (s : ByteArray) : SplAt s (s.size + 1) 0 [] := ⟨rfl, rfl⟩
theorem splAt_step {s : ByteArray} {f t : Nat} {acc : List Value} (h : SplAt s (f + 1) t acc) (hw : Pl.wholeAt s t ≠ 0) : SplAt s f (t + Pl.wholeAt s t) (acc ++ Pl.frAt s t (Pl.wholeAt s t)) := by
  have := h; unfold SplAt at this ⊢; rw [Pl.spl_step s f t hw] at this; exact ⟨by rw [List.append_assoc]; exact this.1, this.2⟩
theorem splAt_stop {s : ByteArray} {f t : Nat} {acc : List Value} (h : SplAt s f t acc) (hw : Pl.wholeAt s t = 0) : Pl.splF s = (acc, t) := by
  have := h; unfold SplAt at this; rw [Pl.spl_stop s f t hw] at this
  exact Prod.ext (by simpa using this.1.symm) this.2.symm

theorem streamFrame_at (s : ByteArray) (t z : Nat) (w : World) (h1 : 8 ≤ z) (h2 : t + z ≤ s.size) (hs : s.size ≤ 4194304) :
    Calls Try.prog 35 #[.string (s.extract t (t + z))] w fun e w' => ∃ (p q : Nat) (b : ByteArray), e = .returned (.agg #[.int .i64 (p : Nat), .int .i64 (q : Nat), .string b]) ∧ Hid (Pl.frAt s t z = [.int .i64 (p : Nat), .int .i64 (q : Nat), .string b]) ∧ Below w.heap.size w w' := by
  have hz : (s.extract t (t + z)).size = z := by simp; omega
  refine (streamFrame_any (s.extract t (t + z)) w (by omega) (by omega)).mono ?_
  rintro e w' ⟨rfl, hb⟩
  refine ⟨_, _, _, rfl, ?_, hb⟩
  show Pl.frAt s t z = _
  unfold Pl.frAt
  rw [Pl.byt_extract s t (t + z) 0 h2 (by omega), Pl.byt_extract s t (t + z) 1 h2 (by omega), Pl.byt_extract s t (t + z) 6 h2 (by omega), hz, Pl.extract_extract s t (t + z) 7 z (by omega)]
  rfl

set_option maxHeartbeats 1000000 in
theorem split_core (s : ByteArray) (w : World) (hs : s.size ≤ 4194304) :
    Calls Try.prog 11 #[.string s] w fun e w' => ∃ v n acc t k, e = .returned (.tuple #[v, .int .i64 (t : Nat), .int .i64 k]) ∧
      w'.ownsRow w.heap.size 40 3 v n acc ∧ SplIs s acc t k ∧ n ≤ 524288 ∧ Below w.heap.size w w' := by
  obtain ⟨i0, hi, hz0, hz1, hz2⟩ := info_parts Try.info40
  go_enter Try.func11, Try.ntmps11
  go_wp2_with fail
  refine (wholeSize_any s _ hs).mono ?_
  rintro e w' ⟨rfl, rfl⟩
  go_wp2_with fail
  go_loopw [5, 6, 7] (fun v t z wr => ∃ at_ n f acc zz, at_ ≤ s.size ∧ 8 * n ≤ at_ ∧ t = .int .i64 (at_ : Nat) ∧ z = .int .i64 (zz : Nat) ∧ Hid (zz = Pl.wholeAt s at_) ∧ wr.ownsRow w'.heap.size 40 3 v n acc ∧ s.size < at_ + f ∧
    SplAt s f at_ acc ∧ Below w'.heap.size w' wr) (fun _ t _ _ => s.size - (intOf t).toNat)
  case atStart => exact ⟨0, 0, s.size + 1, [], Pl.whole s, by omega, by omega, rfl, rfl, (Pl.wholeAt_zero s).symm, World.ownsRow_nil _ _ _ _, by omega, splAt_start s, Below.refl _ _⟩
  case round =>
    obtain ⟨t, n, f, acc, z, ht, hn, rfl, rfl, HZ, hown, hf, HS, hbel⟩ := hrel
    by_cases hw : z = 0
    · have HE : Hid (Pl.splF s = (acc, t)) := splAt_stop HS (by rw [← HZ.out]; exact hw)
      subst hw
      clear HS HZ
      cases hbrk : Pl.brk (s.extract t s.size)
      · have HK : SplIs s acc t 0 := ⟨HE.out, by rw [hbrk]; rfl⟩
        clear HE
        go_wp2_with fail
        refine (breaks_any _ _ (by simp; omega)).mono ?_
        rintro e w2 ⟨rfl, rfl⟩
        rw [hbrk]
        clear hbrk
        go_wp2
        go_ret3
        exact ⟨u5, n, acc, t, 0, rfl, hown, HK, by omega, hbel⟩
      · have HK : SplIs s acc t 4 := ⟨HE.out, by rw [hbrk]; rfl⟩
        clear HE
        go_wp2_with fail
        refine (breaks_any _ _ (by simp; omega)).mono ?_
        rintro e w2 ⟨rfl, rfl⟩
        rw [hbrk]
        clear hbrk
        go_wp2
        go_ret3
        exact ⟨u5, n, acc, t, 4, rfl, hown, HK, by omega, hbel⟩
    · have hw0 : Pl.wholeAt s t ≠ 0 := by rw [← HZ.out]; exact hw
      have hwb := Pl.wholeAt_bd s t hw0
      rw [← HZ.out] at hwb
      obtain ⟨hw1, hw2, hw3⟩ := hwb
      obtain ⟨f, rfl⟩ : ∃ g, f = g + 1 := ⟨f - 1, by omega⟩
      have HN := splAt_step HS hw0
      rw [← HZ.out] at HN
      clear HS hw0 HZ
      go_wp2_with fail
      refine (streamFrame_at s t z _ hw1 hw3 hs).mono ?_
      rintro e w2 ⟨p, q, b, rfl, HF, hb2⟩
      rw [HF.out] at HN
      have hown2 : w2.ownsRow w'.heap.size 40 3 u5 n acc := ownsRow_below hown hb2
      have hbel2 : Below w'.heap.size w' w2 := hbel.trans (hb2.mono hbel.size)
      have hsz2 := hbel2.size
      clear hown hbel hb2 HF
      go_wp2_with (at_builtin; refine wpList_append_own _ rfl (.tmp 16) (.tmp 24) 31 rfl w'.heap.size 40 i0 (.agg #[.int .i64 0, .int .i64 0, .string ⟨#[]⟩]) 3 32 Try.underlying31 hi hz0 hz1 hz2 rfl (by decide) u5 n acc rfl (hown2.alloc _) ⟨w2.heap.size, 0, none⟩ 1 1 [.int .i64 (p : Nat), .int .i64 (q : Nat), .string b] rfl rfl (cell_three_new _ _ _ _ _) (by intro u hu; simp at hu; rcases hu with rfl | rfl | rfl <;> rfl) (by unfold maxLen; omega) (by omega) (by simp; omega) ?_; intro v' w3 hown3 hgrow3 _)
      refine (wholeSize_any _ _ (by simp; omega)).mono ?_
      rintro e w4 ⟨rfl, rfl⟩
      have hbel3 : Below w'.heap.size w' w4 := (hbel2.alloc hsz2 _).grown hgrow3 (by simp; omega) (fun k hk => (hown2.lt k hk).1)
      clear hown2 hbel2 hgrow3
      go_wp2
      go_roundw
      case rel => exact ⟨t + z, n + 1, f, _, Pl.whole (s.extract (t + z) s.size), by omega, by omega, by go_num, rfl, rfl, hown3, by omega, HN, hbel3⟩
      case measure => simp [intOf]; omega
end Go.Proofs.Ytcpldcojckhapaa
