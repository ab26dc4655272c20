/-
  
-/
import Derived.Test.YtcpldcojckhapaaGreatJ13
import Derived.Deep.DeepMust
import Derived.Test.YtcpldcojckhapaaGreatJ6
import Derived.Test.YtcpldcojckhapaaGreatJ8
set_option maxRecDepth 100000
namespace Go.Proofs.YtcpldcojckhapaaGreat
open Go.RowKit
set_option maxRecDepth 100000 in
set_option maxHeartbeats 1000000 in
theorem streamFrame_any (s : ByteArray) (w : World) (h1 : 7 <= s.size) (hs : s.size <= 4194304) :
    Calls Tryz.prog 110 #[.string s] w fun e w' => e = .returned (.agg #[.int .i64 (256 * Pl.byt s 0 + Pl.byt s 1 : Nat), .int .i64 (Pl.byt s 6 : Nat), .string (s.extract 7 s.size)]) /\ Below w.heap.size w w' := by
  have hp0 : 0 < s.size := by omega
  have hp1 : 1 < s.size := by omega
  have gb := Pl.get_byt s
  have hb0 := Pl.byt_lt s 0
  have hb1 := Pl.byt_lt s 1
  have e1 := Pl.byt_extract s 6 s.size 0 (Nat.le_refl _) (by omega)
  have e2 := Pl.extract_extract s 6 s.size 1 (s.size - 6) (by omega)
  rw [show 6 + (s.size - 6) = s.size by omega] at e2
  go_enter Tryz.func110, Tryz.ntmps110
  go_wp2_with fail
  refine (unitAndBody_any _ _ (by simp; omega) (by simp; omega)).mono ?_
  rintro e w1 ⟨rfl, hb⟩
  obtain ⟨hc, hf⟩ := bcell hb
  have hz : w.heap.size < w1.heap.size := by have := hb.size; simp at this; omega
  go_wp2
  go_region
  all_goals go_wp2
  all_goals
    have eo : bits BinOp.or IntKind.i64 ((Pl.byt s 0 : Int) * 256) (Pl.byt s 1) = (256 * Pl.byt s 0 + Pl.byt s 1 : Nat) := Pl.i64_word _ _ hb0 hb1
    refine bodyPost_ret (v := .agg #[.int .i64 (256 * Pl.byt s 0 + Pl.byt s 1 : Nat), .int .i64 (Pl.byt s 6 : Nat), .string (s.extract 7 s.size)]) (by simp [results, Tryz.results110, go_sem, hc, hz, eo]) rfl ⟨rfl, ?_⟩
    exact (((((((Below.refl _ _).alloc (Nat.le_refl _) _).trans (hb.mono (by simp))).setCell (Nat.le_refl _) _).setCell (Nat.le_refl _) _).setCell (Nat.le_refl _) _).alloc (by simp; omega) _).drew
set_option maxRecDepth 100000 in
set_option maxHeartbeats 1000000 in
theorem breaks_any (s : ByteArray) (w : World) (hs : s.size <= 4194304) :
    Calls Tryz.prog 111 #[.string s] w fun e w' => e = .returned (.bool (Pl.brk s)) /\ w' = w := by
  have gb := Pl.get_byt s
  go_enter Tryz.func111, Tryz.ntmps111
  go_wp2
  go_loop [3] (fun i => ∃ k : Nat, 2 <= k /\ k <= 5 /\ i = .int .i64 k /\ Hid ((2 < k -> Pl.byt s 2 = 0) /\ (3 < k -> Pl.byt s 3 = 0) /\ (4 < k -> Pl.byt s 4 = 0))) (fun i => 5 - (intOf i).toNat)
  case atStart => exact ⟨2, by omega, by omega, rfl, by simp [Hid]⟩
  case round =>
    obtain ⟨k, hk2, hk5, rfl, hz⟩ := hrel
    by_cases h5 : k < 5
    . by_cases hlt : k < s.size
      . by_cases h0 : Pl.byt s k = 0
        . have t1 : ((Pl.byt s k : Int) != 0) = false := by simp; omega
          have H0 : Hid (Pl.byt s k = 0) := h0
          clear h0
          go_wp2
          go_round
          case rel => exact ⟨k + 1, by omega, by omega, by go_num, by
            have hz := hz.out; have h0 := H0.out
            refine ⟨fun h => ?_, fun h => ?_, fun h => ?_⟩
            . by_cases e : k = 2
              . subst e; exact h0
              . exact hz.1 (by omega)
            . by_cases e : k = 3
              . subst e; exact h0
              . exact hz.2.1 (by omega)
            . by_cases e : k = 4
              . subst e; exact h0
              . exact hz.2.2 (by omega)⟩
          case measure => simp [intOf]; omega
        . have t1 : ((Pl.byt s k : Int) != 0) = true := by simp; omega
          have HB : Hid (Pl.brk s = true) := Pl.brk_true s (by
            rcases (show k = 2 ∨ k = 3 ∨ k = 4 by omega) with e | e | e
            . subst e; exact .inl h0
            . subst e; exact .inr (.inl h0)
            . subst e; exact .inr (.inr (.inl h0)))
          clear h0
          go_wp2
          go_ret
          exact ⟨rbool HB.out.symm, rfl⟩
      . have HB : Hid (Pl.brk s = false) := Pl.brk_false s (Classical.byContradiction fun h => h (if e : 2 < k then hz.out.1 e else Pl.byt_end s 2 (by omega))) (if e : 3 < k then hz.out.2.1 e else Pl.byt_end s 3 (by omega)) (if e : 4 < k then hz.out.2.2 e else Pl.byt_end s 4 (by omega)) (fun h => by omega)
        have hl5 : ¬ 5 < s.size := by omega
        go_wp2
        go_ret
        exact ⟨rbool HB.out.symm, rfl⟩
    . have hz2 := hz.out.1 (by omega)
      have hz3 := hz.out.2.1 (by omega)
      have hz4 := hz.out.2.2 (by omega)
      by_cases hl5 : 5 < s.size
      . by_cases hlo : Pl.byt s 5 < 2
        . have HB : Hid (Pl.brk s = true) := Pl.brk_true s (.inr (.inr (.inr ⟨hl5, .inl hlo⟩)))
          clear hz2 hz3 hz4
          go_wp2
          go_ret
          exact ⟨rbool HB.out.symm, rfl⟩
        . by_cases hhi : 254 < Pl.byt s 5
          . have HB : Hid (Pl.brk s = true) := Pl.brk_true s (.inr (.inr (.inr ⟨hl5, .inr hhi⟩)))
            clear hz2 hz3 hz4
            go_wp2
            go_ret
            exact ⟨rbool (by rw [HB.out]; simp; omega), rfl⟩
          . have HB : Hid (Pl.brk s = false) := Pl.brk_false s hz2 hz3 hz4 (fun _ => by omega)
            clear hz2 hz3 hz4
            go_wp2
            go_ret
            exact ⟨rbool (by rw [HB.out]; simp; omega), rfl⟩
      . have HB : Hid (Pl.brk s = false) := Pl.brk_false s hz2 hz3 hz4 (fun _ => by omega)
        clear hz2 hz3 hz4
        go_wp2
        go_ret
        exact ⟨rbool HB.out.symm, rfl⟩
set_option maxRecDepth 100000 in
set_option maxHeartbeats 1000000 in
theorem wholeSize_any (s : ByteArray) (w : World) (hs : s.size <= 4194304) :
    Calls Tryz.prog 109 #[.string s] w fun e w' => e = .returned (.int .i64 (Pl.whole s : Nat)) /\ w' = w := by
  have gb := Pl.get_byt s
  have hb5 := Pl.byt_lt s 5
  by_cases h6 : s.size < 6
  . have HB : Hid (Pl.whole s = 0) := by show _ = _; unfold Pl.whole; rw [if_pos (.inl h6)]
    go_enter Tryz.func109, Tryz.ntmps109
    go_wp2
    go_ret
    exact ⟨rint (by rw [HB.out]; rfl), rfl⟩
  . cases hbrk : Pl.brk s
    . by_cases hw : s.size < 6 + Pl.byt s 5
      . have HB : Hid (Pl.whole s = 0) := by show _ = _; unfold Pl.whole; rw [if_neg (by simp [hbrk]; omega), if_pos hw]
        go_enter Tryz.func109, Tryz.ntmps109
        go_wp2_with fail
        refine (breaks_any s _ hs).mono ?_
        rintro e w' ⟨rfl, rfl⟩
        rw [hbrk]; clear hbrk
        go_wp2
        go_ret
        exact ⟨rint (by rw [HB.out]; rfl), rfl⟩
      . have HB : Hid (Pl.whole s = 6 + Pl.byt s 5) := by show _ = _; unfold Pl.whole; rw [if_neg (by simp [hbrk]; omega), if_neg hw]
        go_enter Tryz.func109, Tryz.ntmps109
        go_wp2_with fail
        refine (breaks_any s _ hs).mono ?_
        rintro e w' ⟨rfl, rfl⟩
        rw [hbrk]; clear hbrk
        go_wp2
        go_ret
        exact ⟨rint (by rw [HB.out]; omega), rfl⟩
    . have HB : Hid (Pl.whole s = 0) := by show _ = _; unfold Pl.whole; rw [if_pos (.inr hbrk)]
      go_enter Tryz.func109, Tryz.ntmps109
      go_wp2_with fail
      refine (breaks_any s _ hs).mono ?_
      rintro e w' ⟨rfl, rfl⟩
      rw [hbrk]; clear hbrk
      go_wp2
      go_ret
      exact ⟨rint (by rw [HB.out]; rfl), rfl⟩
end Go.Proofs.YtcpldcojckhapaaGreat

set_option maxRecDepth 100000
namespace Go.Proofs.YtcpldcojckhapaaGreat
open Go.RowKit
theorem Tryz.info94 : (Tryz.prog.info? 94).map (fun i => (i.zero, i.size, i.bytes)) = some (some (.agg #[.int .i64 0, .int .i64 0, .string ⟨#[]⟩]), 3, 32) := by kernel_rfl
def SplIs (s : ByteArray) (acc : List Value) (t : Nat) (k : Int) : Prop := Pl.splF s = (acc, t) /\ k = if Pl.brk (s.extract t s.size) then 4 else 0
def SplAt (s : ByteArray) (f t : Nat) (acc : List Value) : Prop := acc ++ (Pl.spl s f t).1 = (Pl.splF s).1 /\ (Pl.spl s f t).2 = (Pl.splF s).2
theorem splAt_start (s : ByteArray) : SplAt s (s.size + 1) 0 [] := ⟨rfl, rfl⟩
theorem splAt_step {s : ByteArray} {f t : Nat} {acc : List Value} (h : SplAt s (f + 1) t acc) (hw : Pl.wholeAt s t ≠ 0) : SplAt s f (t + Pl.wholeAt s t) (acc ++ Pl.frAt s t (Pl.wholeAt s t)) := by
  have := h; unfold SplAt at this ⊢; rw [Pl.spl_step s f t hw] at this; exact ⟨by rw [List.append_assoc]; exact this.1, this.2⟩
theorem splAt_stop {s : ByteArray} {f t : Nat} {acc : List Value} (h : SplAt s f t acc) (hw : Pl.wholeAt s t = 0) : Pl.splF s = (acc, t) := by
  have := h; unfold SplAt at this; rw [Pl.spl_stop s f t hw] at this
  exact Prod.ext (by simpa using this.1.symm) this.2.symm
theorem streamFrame_at (s : ByteArray) (t z : Nat) (w : World) (h1 : 8 <= z) (h2 : t + z <= s.size) (hs : s.size <= 4194304) :
    Calls Tryz.prog 110 #[.string (s.extract t (t + z))] w fun e w' => ∃ (p q : Nat) (b : ByteArray), e = .returned (.agg #[.int .i64 (p : Nat), .int .i64 (q : Nat), .string b]) /\ Hid (Pl.frAt s t z = [.int .i64 (p : Nat), .int .i64 (q : Nat), .string b]) /\ Below w.heap.size w w' := by
  have hz : (s.extract t (t + z)).size = z := by simp; omega
  refine (streamFrame_any (s.extract t (t + z)) w (by omega) (by omega)).mono ?_
  rintro e w' ⟨rfl, hb⟩
  refine ⟨_, _, _, rfl, ?_, hb⟩
  show Pl.frAt s t z = _
  unfold Pl.frAt
  rw [Pl.byt_extract s t (t + z) 0 h2 (by omega), Pl.byt_extract s t (t + z) 1 h2 (by omega), Pl.byt_extract s t (t + z) 6 h2 (by omega), hz, Pl.extract_extract s t (t + z) 7 z (by omega)]
  rfl
set_option maxRecDepth 100000 in
set_option maxHeartbeats 1000000 in
theorem split_core (s : ByteArray) (w : World) (hs : s.size <= 4194304) :
    Calls Tryz.prog 75 #[.string s] w fun e w' => ∃ v n acc t k, e = .returned (.tuple #[v, .int .i64 (t : Nat), .int .i64 k]) /\
      w'.ownsRow w.heap.size 94 3 v n acc /\ SplIs s acc t k /\ n <= 524288 /\ Below w.heap.size w w' := by
  obtain ⟨i0, hi, hz0, hz1, hz2⟩ := info_parts Tryz.info94
  go_enter Tryz.func75, Tryz.ntmps75
  go_wp2_with fail
  refine (wholeSize_any s _ hs).mono ?_
  rintro e w' ⟨rfl, rfl⟩
  go_wp2_with fail
  go_loopw [5, 6, 7] (fun v t z wr => ∃ at_ n f acc zz, at_ <= s.size /\ 8 * n <= at_ /\ t = .int .i64 (at_ : Nat) /\ z = .int .i64 (zz : Nat) /\ Hid (zz = Pl.wholeAt s at_) /\ wr.ownsRow w'.heap.size 94 3 v n acc /\ s.size < at_ + f /\
    SplAt s f at_ acc /\ Below w'.heap.size w' wr) (fun _ t _ _ => s.size - (intOf t).toNat)
  case atStart => exact ⟨0, 0, s.size + 1, [], Pl.whole s, by omega, by omega, rfl, rfl, (Pl.wholeAt_zero s).symm, World.ownsRow_nil _ _ _ _, by omega, splAt_start s, Below.refl _ _⟩
  case round =>
    obtain ⟨t, n, f, acc, z, ht, hn, rfl, rfl, HZ, hown, hf, HS, hbel⟩ := hrel
    by_cases hw : z = 0
    . have HE : Hid (Pl.splF s = (acc, t)) := splAt_stop HS (by rw [<- HZ.out]; exact hw)
      subst hw
      clear HS HZ
      cases hbrk : Pl.brk (s.extract t s.size)
      . have HK : SplIs s acc t 0 := ⟨HE.out, by rw [hbrk]; rfl⟩
        clear HE
        go_wp2_with fail
        refine (breaks_any _ _ (by simp; omega)).mono ?_
        rintro e w2 ⟨rfl, rfl⟩
        rw [hbrk]
        clear hbrk
        go_wp2
        go_ret3
        exact ⟨u5, n, acc, t, 0, rfl, hown, HK, by omega, hbel⟩
      . have HK : SplIs s acc t 4 := ⟨HE.out, by rw [hbrk]; rfl⟩
        clear HE
        go_wp2_with fail
        refine (breaks_any _ _ (by simp; omega)).mono ?_
        rintro e w2 ⟨rfl, rfl⟩
        rw [hbrk]
        clear hbrk
        go_wp2
        go_ret3
        exact ⟨u5, n, acc, t, 4, rfl, hown, HK, by omega, hbel⟩
    . have hw0 : Pl.wholeAt s t ≠ 0 := by rw [<- HZ.out]; exact hw
      have hwb := Pl.wholeAt_bd s t hw0
      rw [<- HZ.out] at hwb
      obtain ⟨hw1, hw2, hw3⟩ := hwb
      obtain ⟨f, rfl⟩ : ∃ g, f = g + 1 := ⟨f - 1, by omega⟩
      have HN := splAt_step HS hw0
      rw [<- HZ.out] at HN
      clear HS hw0 HZ
      go_wp2_with fail
      refine (streamFrame_at s t z _ hw1 hw3 hs).mono ?_
      rintro e w2 ⟨p, q, b, rfl, HF, hb2⟩
      rw [HF.out] at HN
      have hown2 : w2.ownsRow w'.heap.size 94 3 u5 n acc := ownsRow_below hown hb2
      have hbel2 : Below w'.heap.size w' w2 := hbel.trans (hb2.mono hbel.size)
      have hsz2 := hbel2.size
      clear hown hbel hb2 HF
      go_wp2_with (at_builtin; refine wpList_append_own _ rfl (.tmp 16) (.tmp 24) 29 rfl w'.heap.size 94 i0 (.agg #[.int .i64 0, .int .i64 0, .string ⟨#[]⟩]) 3 32 Tryz.underlying29 hi hz0 hz1 hz2 rfl (by decide) u5 n acc rfl (hown2.alloc _) ⟨w2.heap.size, 0, none⟩ 1 1 [.int .i64 (p : Nat), .int .i64 (q : Nat), .string b] rfl rfl (cell_three_new _ _ _ _ _) (by intro u hu; simp at hu; rcases hu with rfl | rfl | rfl <;> rfl) (by unfold maxLen; omega) (by omega) (by simp; omega) ?_; intro v' w3 hown3 hgrow3 _)
      refine (wholeSize_any _ _ (by simp; omega)).mono ?_
      rintro e w4 ⟨rfl, rfl⟩
      have hbel3 : Below w'.heap.size w' w4 := (hbel2.alloc hsz2 _).grown hgrow3 (by simp; omega) (fun k hk => (hown2.lt k hk).1)
      clear hown2 hbel2 hgrow3
      go_wp2
      go_roundw
      case rel => exact ⟨t + z, n + 1, f, _, Pl.whole (s.extract (t + z) s.size), by omega, by omega, by go_num, rfl, rfl, hown3, by omega, HN, hbel3⟩
      case measure => simp [intOf]; omega
end Go.Proofs.YtcpldcojckhapaaGreat

set_option maxRecDepth 100000
namespace Go.Proofs.YtcpldcojckhapaaGreat
open Go.RowKit
def streamB (m u : Nat) (b : ByteArray) : ByteArray := twoB m ++ ⟨#[0, 0]⟩ ++ twoB (b.size + 1) ++ ⟨#[UInt8.ofNat u]⟩ ++ b
end Go.Proofs.YtcpldcojckhapaaGreat

set_option maxRecDepth 100000
namespace Go.Proofs.YtcpldcojckhapaaGreat
open Go.RowKit
theorem streamB_words (m u : Nat) (b : ByteArray) : wordsB [m, 0, b.size + 1] ++ (⟨#[UInt8.ofNat u]⟩ ++ b) = streamB m u b := by
  apply ByteArray.ext
  apply Array.toList_inj.1
  simp [streamB, wordsB, bytesOf, wordsI, twoB]
  refine ⟨?_, ?_, ?_, ?_⟩ <;> congr 1 <;> omega
set_option maxRecDepth 100000 in
set_option maxHeartbeats 1000000 in
theorem framed_stream (L i n m u : Nat) (b : ByteArray) (ln : Nat -> Ln) (w : World) (hG : Grid w L 116 n 3 (fun a j => lnc (ln a) j)) (hi : i < n) (hk : (ln i).kind = 0) (hm : m < 65536) (hu : u < 256) (hb : b.size <= 253) :
    Calls Tryz.prog 82 #[.pointer (some ⟨L, i * 3, none⟩), .agg #[.int .i64 (m : Nat), .int .i64 (u : Nat), .string b]] w fun e w' => e = .returned (.string (streamB m u b)) /\ Below w.heap.size w w' := by
  have c0 : w.cell? ⟨L, i * 3, none⟩ = some (.int .i64 0) := by have := hG.cell hi (j := 0) (by omega); rw [Nat.add_zero] at this; rw [this]; simp [lnc, hk]
  have hLl := hG.lt
  have c1 : ∀ (W : World) (g : Nat), W.cell? ⟨g, 0, none⟩ = some (.int .u8 (u : Int)) -> (convert 114 9 (.slice (some ⟨g, 0, none⟩) 1 1)).run Tryz.prog W = .ok (.string ⟨#[UInt8.ofNat u]⟩) W := fun W g hc => conv1_at W g u hc
  have wu : IntKind.u8.wrap (u : Int) = (u : Int) := by rw [IntKind.wrap_u8]; omega
  have hlim : ¬ 9223372036854775807 < 1 + b.size := by omega
  have HE := hideF (streamB_words m u b)
  have hzw : (wordsB [m, 0, b.size + 1]).size = 6 := by rfl
  have z1 : ((⟨#[UInt8.ofNat u]⟩ : ByteArray) ++ b).size = 1 + b.size := by rw [ByteArray.size_append]; rfl
  have HZW := hideF hzw
  obtain ⟨X, hX⟩ : ∃ X, X = ((w.alloc (.cells #[.int .i64 (m : Nat), .int .i64 (u : Nat), .string b] 94)).alloc (.cells #[.int .u8 (u : Nat)] 5)).alloc (.cells #[.int .i64 (m : Nat), .int .i64 0, .int .i64 (1 + (b.size : Int))] 3) := ⟨_, rfl⟩
  have hXg : X.heap[w.heap.size + 1 + 1]? = some (.cells #[.int .i64 (m : Nat), .int .i64 0, .int .i64 (1 + (b.size : Int))] 3 (0, 0)) := by
    rw [hX]
    have := heap_alloc_new ((w.alloc (.cells #[.int .i64 (m : Nat), .int .i64 (u : Nat), .string b] 94)).alloc (.cells #[.int .u8 (u : Nat)] 5)) (.cells #[.int .i64 (m : Nat), .int .i64 0, .int .i64 (1 + (b.size : Int))] 3)
    simpa using this
  have HXb : Hid (Below w.heap.size w X) := by rw [hX]; exact bel_alloc (bel_alloc (bel_alloc (Below.refl w.heap.size w) _) _) _
  have HXg := hideF hXg
  have hXl := lt_of_block hXg
  clear hG hk hXg
  go_enter Tryz.func82, Tryz.ntmps82
  go_wp2_with fail
  rw [<- hX]
  clear hX
  refine (words_any [m, 0, b.size + 1] 3 3 (w.heap.size + 1 + 1) 0 _ X rfl (by omega) (by intro x hx; simp at hx; rcases hx with rfl | rfl | rfl <;> omega) (by omega) (fun _ => rfl) (fun j x hj => by
    rw [Nat.zero_add, cell_of_row _ _ _ _ _ _ HXg.out]
    match j, hj with
    | 0, hj => simp at hj; subst hj; rfl
    | 1, hj => simp at hj; subst hj; rfl
    | 2, hj => simp at hj; subst hj; simp; omega)).mono ?_
  rintro e w1 ⟨rfl, hb1⟩
  have HB1 := hideF (bel_then HXb.out hb1)
  have hlim2 : ¬ 9223372036854775807 < 6 + (1 + b.size) := by omega
  clear hb1
  have hzw := HZW.out
  go_wp2
  go_ret
  exact ⟨by rw [<- HE.out]; rfl, HB1.out⟩
theorem DevIn.waitIn {w : World} {d L S : Nat} {E : Nat -> Nat} {wv : Value} {D : Dev} (h : DevIn w d L S E wv D) : WaitIn D.base w d (devC D L S E wv) wv D.wait := ⟨h.dev, rfl, rfl, h.wait, h.lo.1⟩
theorem DevIn.ofWait {w w' : World} {d L S : Nat} {E : Nat -> Nat} {wv v : Value} {D : Dev} {l : List (Int × Int × ByteArray)} (h : DevIn w d L S E wv D) (hw : WaitIn D.base w' d ((devC D L S E wv).setIfInBounds 14 v) v l) (hf : FtT D.base (wtT d) w w') : DevIn w' d L S E v { D with wait := l } := by
  obtain ⟨cl, hcl⟩ := h.lines.block
  refine ⟨hw.dev, h.lines.same (hf.keep L cl 116 hcl rfl), fun i hi => ?_, h.inj, (hf.keep S _ 155 h.store rfl).trans h.store, hw.own, h.lo⟩
  obtain ⟨ce, hce⟩ := (h.ent i hi).block
  exact (h.ent i hi).same (hf.keep (E i) ce 3 hce rfl)
theorem DevIn.cells {w : World} {d L S : Nat} {E : Nat -> Nat} {wv : Value} {D : Dev} (h : DevIn w d L S E wv D) :
    w.cell? ⟨d, 0, none⟩ = some (.int .i64 (D.unit : Nat)) /\ w.cell? ⟨d, 1, none⟩ = some (.int .i64 (D.batch : Nat)) /\ w.cell? ⟨d, 2, none⟩ = some (.slice (some ⟨L, 0, none⟩) D.nl D.nl) /\ w.cell? ⟨d, 11, none⟩ = some (.pointer (some ⟨S, 0, none⟩)) /\ w.cell? ⟨d, 12, none⟩ = some (.int .i64 (D.arr : Nat)) /\ w.cell? ⟨d, 13, none⟩ = some (.int .i64 (D.uns : Nat)) /\ w.cell? ⟨d, 14, none⟩ = some wv /\ (∀ j, w.frozen? ⟨d, j, none⟩ = false) /\ d < w.heap.size :=
  ⟨by rw [cell_of_row _ _ _ _ _ _ h.dev]; rfl, by rw [cell_of_row _ _ _ _ _ _ h.dev]; rfl, by rw [cell_of_row _ _ _ _ _ _ h.dev]; rfl, by rw [cell_of_row _ _ _ _ _ _ h.dev]; rfl, by rw [cell_of_row _ _ _ _ _ _ h.dev]; rfl, by rw [cell_of_row _ _ _ _ _ _ h.dev]; rfl, by rw [cell_of_row _ _ _ _ _ _ h.dev]; rfl, fun j => frozen_of_row _ _ _ _ _ h.dev, lt_of_block h.dev⟩
set_option maxRecDepth 100000 in
set_option maxHeartbeats 1000000 in
theorem dansw_now (d L S i : Nat) (E : Nat -> Nat) (wv : Value) (D : Dev) (s : ByteArray) (w : World) (h : DevIn w d L S E wv D) (hu : D.uns = 0) :
    Calls Tryz.prog 81 #[.pointer (some ⟨d, 0, none⟩), .int .i64 (i : Nat), .string s] w fun e w' => ∃ v, e = .returned v /\ w'.ownsRow w.heap.size 77 4 v 1 ([(2, 0, ((i : Nat) : Int), s)].flatMap encA) /\ Below w.heap.size w w' := by
  obtain ⟨c0, c1, c2, c11, c12, c13, c14, cf, hdl⟩ := h.cells
  rw [hu] at c13
  clear h hu
  go_enter Tryz.func81, Tryz.ntmps81
  go_wp2_with fail
  refine (hsend_any ((D.arr : Int), ((i : Nat) : Int), s) _).mono ?_
  rintro e w1 ⟨rfl, hb1⟩
  have HB1 := hideF (bel_then (bel_alloc (Below.refl w.heap.size w) _) hb1)
  have hs1 := HB1.out.size
  clear hb1
  go_wp2
  go_ret
  refine ⟨_, rfl, ?_, bel_alloc HB1.out _⟩
  exact ⟨rfl, .inr ⟨w1.heap.size, 1, _, rfl, hs1, heap_alloc_new w1 _, Nat.le_refl _, by unfold maxLen; omega, rfl, rfl⟩⟩
set_option maxRecDepth 100000 in
set_option maxHeartbeats 1000000 in
theorem dansw_wait (d L S i : Nat) (E : Nat -> Nat) (wv : Value) (D : Dev) (s : ByteArray) (w : World) (h : DevIn w d L S E wv D) (hu : 0 < D.uns) (hl : D.wait.length <= 1000) (hx : ∀ y ∈ D.wait, y.1 < (D.arr : Int)) :
    Calls Tryz.prog 81 #[.pointer (some ⟨d, 0, none⟩), .int .i64 (i : Nat), .string s] w fun e w' => ∃ v', e = .returned (.slice none 0 0) /\ DevIn w' d L S E v' { D with wait := D.wait ++ [((D.arr : Int), ((i : Nat) : Int), s)] } /\ FtT D.base (wtT d) w w' := by
  obtain ⟨c0, c1, c2, c11, c12, c13, c14, cf, hdl⟩ := h.cells
  have hu' : (0 : Int) < (D.uns : Int) := by omega
  obtain ⟨X, hX⟩ : ∃ X, X = w.alloc (.cells #[.int .i64 (D.arr : Nat), .int .i64 (i : Nat), .string s] 163) := ⟨_, rfl⟩
  have hXb : Below w.heap.size w X := by rw [hX]; exact bel_alloc (Below.refl _ _) _
  have hXg : X.heap[w.heap.size]? = some (.cells #[.int .i64 (D.arr : Nat), .int .i64 (i : Nat), .string s] 163 (0, 0)) := by rw [hX]; exact heap_alloc_new w _
  obtain ⟨x0, x1, x2, xf⟩ := cells3f hXg
  have HXb := hideF hXb
  have HX := hideF hx
  have HH := hideF h
  have HW := hideF ((h.belowQ hXb).drewN 1).waitIn
  clear h hx hXb hXg
  go_enter Tryz.func81, Tryz.ntmps81
  go_wp2_with fail
  rw [<- hX]
  clear hX
  go_region_with (go_at_call 117; refine (hadd_any d _ wv D.wait ((D.arr : Int), ((i : Nat) : Int), s) _ hl HW.out HX.out).mono ?_; rintro e w1 ⟨v', rfl, hw1, hf1⟩)
  all_goals
    have HD := hideF (DevIn.ofWait ((HH.out.belowQ HXb.out).drewN 1) hw1 hf1)
    have HF := hideF (((FtT.of_below (B := D.base) (wtT d) HXb.out).drewN 1).trans hf1)
    clear hw1 hf1
    go_wp2
    go_ret
    exact ⟨_, rfl, HD.out, HF.out⟩
end Go.Proofs.YtcpldcojckhapaaGreat

set_option maxRecDepth 100000
namespace Go.Proofs.YtcpldcojckhapaaGreat
open Go.RowKit
def DoIs (d L S : Nat) (E : Nat -> Nat) (wv : Value) (D : Dev) (s r : ByteArray) (b : Bool) (f : Nat -> Nat -> Int) : Prop :=
  ∀ (x : Pl.Shp) (v : Value) (k B : Nat) (w : World), Pl.ShpIs s x k -> DevIn w d L S E wv { D with arr := D.arr + 1 } -> w.ownsRow B 3 1 v x.vals.length (x.vals.flatMap encI) ->
    Calls Tryz.prog 80 #[reqV s x v k, .pointer (some ⟨d, 3, none⟩)] w fun e w' => e = .returned (.tuple #[.string r, .bool b]) /\ DevIn w' d L S E wv { D with arr := D.arr + 1, ent := f } /\ ∃ j, j < 4 /\ Chg1 (E j) w w'
section
variable {w : World} {d L S : Nat} {E : Nat -> Nat} {wv : Value} {D : Dev}
theorem DevIn.other (h : DevIn w d L S E wv D) {v : Value} {k : Nat} {D' : Dev} (hd : (devC D L S E wv).setIfInBounds k v = devC D' L S E wv) (h1 : D'.nl = D.nl) (h2 : D'.ln = D.ln) (h3 : D'.sz = D.sz) (h4 : D'.ent = D.ent) (h5 : D'.sec = D.sec) (h6 : D'.lat = D.lat) (h7 : D'.stamp = D.stamp) (h8 : D'.wait = D.wait) (h9 : D'.base = D.base) :
    DevIn (w.setCell ⟨d, k, none⟩ v) d L S E wv D' := by
  obtain ⟨cl, hcl⟩ := h.lines.block
  refine ⟨?_, ?_, fun i hi => ?_, h.inj, ?_, ?_, by rw [h9]; exact h.lo⟩
  . rw [heap_setCell_same w d k _ 110 v h.dev, hd]
  . rw [h1, h2]; exact h.lines.set_other _ (ne_of_types hcl h.dev (by decide)) _
  . obtain ⟨ce, hce⟩ := (h.ent i hi).block
    rw [h3, h4]; exact (h.ent i hi).set_other _ (ne_of_types hce h.dev (by decide)) _
  . rw [heap_setCell_other _ _ _ _ (ne_of_types h.store h.dev (by decide)), h5, h6, h7]; exact h.store
  . rw [h8, h9]
    exact own_same h.wait (fun g hg => by obtain ⟨cg, hcg⟩ := own_block h.wait g hg; exact heap_setCell_other _ _ _ _ (ne_of_types hcg h.dev (by decide)))
theorem DevIn.setArr (h : DevIn w d L S E wv D) (n : Nat) : DevIn (w.setCell ⟨d, 12, none⟩ (.int .i64 (n : Nat))) d L S E wv { D with arr := n } := h.other rfl rfl rfl rfl rfl rfl rfl rfl rfl rfl
theorem DevIn.setUns (h : DevIn w d L S E wv D) (n : Nat) : DevIn (w.setCell ⟨d, 13, none⟩ (.int .i64 (n : Nat))) d L S E wv { D with uns := n } := h.other rfl rfl rfl rfl rfl rfl rfl rfl rfl rfl
end
theorem FtT.chg {B : Nat} {T : Nat -> TypeId -> Bool} {g : Nat} {w w' : World} {cur : Array Value} {t : TypeId} (h : Chg1 g w w') (hg : w.heap[g]? = some (.cells cur t (0, 0))) (ht : T g t = true) (hB : B <= g) : FtT B T w w' :=
  ⟨h.os, h.tape, h.output, h.size, fun k c t' hk ht' => h.block k (lt_of_block hk) (fun e => by
    subst e
    rw [type_one hk hg, ht] at ht'
    exact absurd ht' (by decide)), fun k hkB hks => h.block k hks (by omega)⟩
theorem FtT.setNew {B : Nat} {T : Nat -> TypeId -> Bool} {a w : World} (h : FtT B T a w) (g k : Nat) (hg : a.heap.size <= g) (v : Value) : FtT B T a (w.setCell ⟨g, k, none⟩ v) :=
  ⟨h.os, h.tape, h.output, Nat.le_trans h.size (by simp), fun g' cur t hk ht => (heap_setCell_other w _ _ v (by have := lt_of_block hk; simp; omega)).trans (h.keep g' cur t hk ht), fun g' hg' hs' => (heap_setCell_other w _ _ v (by show g' ≠ g; omega)).trans (h.low g' hg' hs')⟩
theorem DevIn.keep {B : Nat} {T : Nat -> TypeId -> Bool} {w w' : World} {d L S : Nat} {E : Nat -> Nat} {wv : Value} {D : Dev} (h : DevIn w d L S E wv D) (hf : FtT B T w w') (h1 : ∀ g, T g 110 = false) (h2 : ∀ g, T g 116 = false) (h3 : ∀ g, T g 3 = false) (h4 : ∀ g, T g 155 = false) (h5 : ∀ g, T g 163 = false) : DevIn w' d L S E wv D := by
  obtain ⟨cl, hcl⟩ := h.lines.block
  refine ⟨(hf.keep d _ 110 h.dev (h1 _)).trans h.dev, h.lines.same (hf.keep L cl 116 hcl (h2 _)), fun i hi => ?_, h.inj, (hf.keep S _ 155 h.store (h4 _)).trans h.store, own_same h.wait (fun g hg => ?_), h.lo⟩
  . obtain ⟨ce, hce⟩ := (h.ent i hi).block
    exact (h.ent i hi).same (hf.keep (E i) ce 3 hce (h3 _))
  . obtain ⟨cg, hcg⟩ := own_block h.wait g hg
    exact hf.keep g cg 163 hcg (h5 _)
theorem enter82 (x y z : Value) (w : World) : (callFunc 81 #[x, y, z]).run Tryz.prog w = .ok (.enter 81 #[x, y, z]) w := by kernel_rfl
theorem enter83 (x y : Value) (w : World) : (callFunc 82 #[x, y]).run Tryz.prog w = .ok (.enter 82 #[x, y]) w := by kernel_rfl
theorem enter81 (x y : Value) (w : World) : (callFunc 80 #[x, y]).run Tryz.prog w = .ok (.enter 80 #[x, y]) w := by kernel_rfl
set_option maxRecDepth 100000 in
set_option maxHeartbeats 2000000 in
theorem take_now (d L S i m : Nat) (E : Nat -> Nat) (wv : Value) (D : Dev) (s r : ByteArray) (f : Nat -> Nat -> Int) (w : World) (h : DevIn w d L S E wv D) (hi : i < D.nl) (hk : (D.ln i).kind = 0) (hm : m < 65536) (hun : D.unit < 256) (ha : D.arr <= 1000000) (hr : r.size <= 253) (hdo : DoIs d L S E wv D s r false f) (hu : D.uns = 0) (hwl : D.wait.length < D.batch) (hb1 : 0 < D.batch) :
    Calls Tryz.prog 57 #[.pointer (some ⟨d, 0, none⟩), .int .i64 (i : Nat), .agg #[.int .i64 (m : Nat), .int .i64 (D.unit : Nat), .string s]] w fun e w' => ∃ v, e = .returned v /\ w'.ownsRow w.heap.size 77 4 v 1 ([(2, 0, ((i : Nat) : Int), streamB m D.unit r)].flatMap encA) /\ DevIn w' d L S E wv { D with arr := D.arr + 1, ent := f } /\ FtT D.base (devT d L S E) w w' := by
  obtain ⟨aw, cw, rfl, _⟩ := own_view h.wait
  obtain ⟨c0, c1, c2, c11, c12, c13, c14, cf, hdl⟩ := h.cells
  obtain ⟨W, hW⟩ : ∃ W, W = w.alloc (.cells #[.int .i64 (m : Nat), .int .i64 (D.unit : Nat), .string s] 94) := ⟨_, rfl⟩
  have hWb : Below w.heap.size w W := by rw [hW]; exact bel_alloc (Below.refl _ _) _
  have hWg : W.heap[w.heap.size]? = some (.cells #[.int .i64 (m : Nat), .int .i64 (D.unit : Nat), .string s] 94 (0, 0)) := by rw [hW]; exact heap_alloc_new w _
  have hWl : W.heap.size = w.heap.size + 1 := by rw [hW]; simp
  have HH := hideF h
  have HWb := hideF hWb
  have HWg := hideF hWg
  have HDO := hideF hdo
  clear h hWb hWg hdo
  go_enter Tryz.func57, Tryz.ntmps57
  go_wp2_with fail
  rw [<- hW]
  clear hW
  refine (newRequest_any s W).mono ?_
  rintro e w1 ⟨x, v, k, rfl, hown, hsh, hlen, hb⟩
  unfold reqV
  obtain ⟨av, cv, rfl, _⟩ := own_view hown
  obtain ⟨X, hX⟩ : ∃ X, X = w1.alloc (.cells #[.string s, .int .i64 (x.fn : Nat), .int .i64 (x.tab : Nat), .int .i64 (x.frm : Nat), .int .i64 (x.cnt : Nat), .int .i64 (x.into : Nat), .int .i64 (x.to : Nat), .int .i64 (x.many : Nat), .slice av x.vals.length cv, .int .u8 (k : Nat)] 146) := ⟨_, rfl⟩
  have hX1 : Below w1.heap.size w1 X := by rw [hX]; exact bel_alloc (Below.refl _ _) _
  have hXb : Below w.heap.size w X := bel_then (bel_then HWb.out hb) hX1
  have hXg : X.heap[w.heap.size]? = some (.cells #[.int .i64 (m : Nat), .int .i64 (D.unit : Nat), .string s] 94 (0, 0)) := (hX1.block _ (by have := hb.size; omega)).trans ((hb.block _ (by omega)).trans HWg.out)
  have hXr : X.heap[w1.heap.size]? = some (.cells #[.string s, .int .i64 (x.fn : Nat), .int .i64 (x.tab : Nat), .int .i64 (x.frm : Nat), .int .i64 (x.cnt : Nat), .int .i64 (x.into : Nat), .int .i64 (x.to : Nat), .int .i64 (x.many : Nat), .slice av x.vals.length cv, .int .u8 (k : Nat)] 146 (0, 0)) := by rw [hX]; exact heap_alloc_new w1 _
  have HXO := hideF (ownsRow_below hown hX1)
  have HXb := hideF hXb
  have HXg := hideF hXg
  have HXr := hideF hXr
  have hsz1 : w.heap.size < w1.heap.size := by have := hb.size; omega
  have HSH := hideF hsh
  have HD := hideF (HH.out.belowQ hXb)
  clear c0 c1 c2 c11 c12 c13 c14 cf hown hsh hb hX1
  obtain ⟨c0, c1, c2, c11, c12, c13, c14, cf, hdX⟩ := HD.out.cells
  obtain ⟨g0, g1, g2, gf⟩ := cells3f hXg
  clear hXb hXg hXr
  go_wp2_with fail
  rw [<- hX]
  clear hX
  go_quiet (fail)
  obtain ⟨Y, hY⟩ : ∃ Y, Y = X.drewN nq := ⟨_, rfl⟩
  have hYb : Below X.heap.size X Y := by rw [hY]; exact below_drewN (Below.refl _ _) _
  rw [<- hY]
  clear hY
  have HYb := hideF (bel_then HXb.out hYb)
  have hYg := (hYb.block _ (lt_of_block HXg.out)).trans HXg.out
  have hYr := (hYb.block _ (lt_of_block HXr.out)).trans HXr.out
  have HYO := hideF (ownsRow_below HXO.out hYb)
  have HYD := hideF (HD.out.belowQ hYb)
  have HYg := hideF hYg
  have HYr := hideF hYr
  clear c0 c1 c2 c11 c12 c13 c14 cf g0 g1 g2 gf hdX HXb HXg HXr HXO HD
  obtain ⟨c0, c1, c2, c11, c12, c13, c14, cf, hdY⟩ := HYD.out.cells
  clear hYb hYg hYr
  go_wp2_with fail
  obtain ⟨Z, hZ⟩ : ∃ Z, Z = (Y.setCell ⟨d, 12, none⟩ (.int .i64 ((D.arr : Int) + 1))).drew := ⟨_, rfl⟩
  have hdg : d ≠ w.heap.size := by omega
  have hdr : d ≠ w1.heap.size := by omega
  have HZD : Hid (DevIn Z d L S E (.slice aw D.wait.length cw) { D with arr := D.arr + 1 }) := by
    rw [hZ]
    have := (HYD.out.setArr (D.arr + 1)).drewN 1
    rw [show ((D.arr + 1 : Nat) : Int) = (D.arr : Int) + 1 by omega] at this
    exact this
  have hZr : Z.heap[w1.heap.size]? = Y.heap[w1.heap.size]? := by rw [hZ]; exact heap_setCell_other Y ⟨d, 12, none⟩ w1.heap.size _ (by simpa using fun e => hdr e.symm)
  have hZg : Z.heap[w.heap.size]? = Y.heap[w.heap.size]? := by rw [hZ]; exact heap_setCell_other Y ⟨d, 12, none⟩ w.heap.size _ (by simpa using fun e => hdg e.symm)
  have HZr := hideF (hZr.trans HYr.out)
  have HZg := hideF (hZg.trans HYg.out)
  have HZO : Hid (Z.ownsRow W.heap.size 3 1 (.slice av x.vals.length cv) x.vals.length (x.vals.flatMap encI)) := by
    rw [hZ]
    exact own_drew (own_same HYO.out (fun g hg => heap_setCell_other Y ⟨d, 12, none⟩ g _ (by have := (HYO.out.lt g hg).1; simp; omega)))
  have HZF : Hid (FtT D.base (devT d L S E) w Z) := by
    rw [hZ]
    exact ((FtT.of_below (devT d L S E) HYb.out).setCell HYD.out.dev (devT_d _ _ _ _) HYD.out.lo.1 _ _).drewN 1
  have HDO2 : Hid (Calls Tryz.prog 80 #[.agg #[.string s, .int .i64 (x.fn : Nat), .int .i64 (x.tab : Nat), .int .i64 (x.frm : Nat), .int .i64 (x.cnt : Nat), .int .i64 (x.into : Nat), .int .i64 (x.to : Nat), .int .i64 (x.many : Nat), .slice av x.vals.length cv, .int .u8 (k : Nat)], .pointer (some ⟨d, 3, none⟩)] ((Y.setCell ⟨d, 12, none⟩ (.int .i64 ((D.arr : Int) + 1))).drew) fun e w' => ∃ v, e = .returned v /\ (v = .tuple #[.string r, .bool false] /\ DevIn w' d L S E (.slice aw D.wait.length cw) { D with arr := D.arr + 1, ent := f } /\ ∃ j, j < 4 /\ Chg1 (E j) Z w')) := by
    rw [<- hZ]
    exact (HDO.out x _ k _ Z HSH.out HZD.out HZO.out).mono fun e w' h => ⟨_, h.1, rfl, h.2.1, h.2.2⟩
  obtain ⟨r0, r1, r2, r3, r4, r5, r6, r7, r8, r9⟩ := cells10 HYr.out
  have hsY := HYb.out.size
  have HZs : Hid (Y.heap.size = Z.heap.size) := by rw [hZ]; show _ = _; simp
  clear hZ hZr hZg
  go_region_law (first
    | (refine step_call rfl 80 #[.tmp 45, .tmp 48] #[146, 151] rfl #[.agg #[.string s, .int .i64 (x.fn : Nat), .int .i64 (x.tab : Nat), .int .i64 (x.frm : Nat), .int .i64 (x.cnt : Nat), .int .i64 (x.into : Nat), .int .i64 (x.to : Nat), .int .i64 (x.many : Nat), .slice av x.vals.length cv, .int .u8 (k : Nat)], .pointer (some ⟨d, 3, none⟩)] (by simp [Act.eval]) (enter81 _ _ _) _ HDO2.out ?_; rintro vv w4 ⟨rfl, hd4, j4, hj4, hc4⟩))
  all_goals
    obtain ⟨ce, hce⟩ := (HZD.out.ent j4 hj4).block
    have hEj := (HH.out.ent j4 hj4).lt
    have HF4 := hideF (HZF.out.trans (FtT.chg hc4 hce (devT_E _ _ _ _ _ hj4) (HZD.out.lo.2.2.2 j4 hj4)))
    have hg4 := (hc4.block w.heap.size (lt_of_block HZg.out) (by omega)).trans HZg.out
    have HD4 := hideF hd4
    have hs4 : w.heap.size < w4.heap.size := lt_of_block hg4
    have HG4 := hideF hg4
    clear c0 c1 c2 c11 c12 c13 c14 cf r0 r1 r2 r3 r4 r5 r6 r7 r8 r9 hce hc4 hd4 HYb HYD HYg HYr HYO HZD HZr HZg HZO HZF HDO2 HZs
    obtain ⟨c0, c1, c2, c11, c12, c13, c14, cf, hd4⟩ := HD4.out.cells
    obtain ⟨g0, g1, g2, gf⟩ := cells3f hg4
    clear hg4
    go_wp2_with fail
    go_quiet (fail)
    obtain ⟨V, hV⟩ : ∃ V, V = w4.drewN nq := ⟨_, rfl⟩
    have hVb : Below w4.heap.size w4 V := by rw [hV]; exact below_drewN (Below.refl _ _) _
    rw [<- hV]
    clear hV
    have HDV := hideF (HD4.out.belowQ hVb)
    have hgV := (hVb.block _ hs4).trans HG4.out
    have HFV := hideF (HF4.out.then_below hVb)
    have HGV := hideF hgV
    have hsV := lt_of_block hgV
    clear c0 c1 c2 c11 c12 c13 c14 cf g0 g1 g2 gf hVb HD4 HG4 HF4 hd4
    obtain ⟨c0, c1, c2, c11, c12, c13, c14, cf, hdV⟩ := HDV.out.cells
    obtain ⟨g0, g1, g2, gf⟩ := cells3f hgV
    clear hgV
    go_wp2_with fail
    obtain ⟨U, hU⟩ : ∃ U, U = V.setCell ⟨w.heap.size, 2, none⟩ (.string r) := ⟨_, rfl⟩
    have HDU : Hid (DevIn U d L S E (.slice aw D.wait.length cw) { D with arr := D.arr + 1, ent := f }) := by rw [hU]; exact HDV.out.keep ((FtT.refl (B := 0) (fun _ t => t == 94) V).setCell HGV.out rfl (Nat.zero_le _) _ _) (fun _ => rfl) (fun _ => rfl) (fun _ => rfl) (fun _ => rfl) (fun _ => rfl)
    have HFU : Hid (FtT D.base (devT d L S E) w U) := by rw [hU]; exact HFV.out.setNew _ _ (Nat.le_refl _) _
    have hgU : U.heap[w.heap.size]? = some (.cells #[.int .i64 (m : Nat), .int .i64 (D.unit : Nat), .string r] 94 (0, 0)) := by rw [hU]; exact heap_setCell_same V _ 2 _ 94 (.string r) HGV.out
    rw [<- hU]
    clear hU c0 c1 c2 c11 c12 c13 c14 cf g0 g1 g2 gf HDV HGV HFV hsV hdV
    obtain ⟨c0, c1, c2, c11, c12, c13, c14, cf, hdU⟩ := HDU.out.cells
    obtain ⟨g0, g1, g2, gf⟩ := cells3f hgU
    have hsU := lt_of_block hgU
    clear hgU
    have hiI : (i : Int) < (D.nl : Int) := by omega
    have HFR : Hid (Calls Tryz.prog 82 #[.pointer (some ⟨L, i * 3, none⟩), .agg #[.int .i64 (m : Nat), .int .i64 (D.unit : Nat), .string r]] U.drew fun e w' => ∃ v, e = .returned v /\ (v = .string (streamB m D.unit r) /\ Below U.drew.heap.size U.drew w')) := (framed_stream L i D.nl m D.unit r D.ln U.drew (HDU.out.drewN 1).lines hi hk hm hun hr).mono fun e w' h => ⟨_, h.1, rfl, h.2⟩
    go_region_law (first
      | (refine step_call rfl 82 #[.tmp 76, .tmp 77] #[116, 94] rfl #[.pointer (some ⟨L, i * 3, none⟩), .agg #[.int .i64 (m : Nat), .int .i64 (D.unit : Nat), .string r]] (by simp [Act.eval, Act.put]) (enter83 _ _ _) _ HFR.out ?_; rintro vv w5 ⟨rfl, hb5⟩; have hd5 := (HDU.out.drewN 1).belowQ hb5)
      | (refine step_call rfl 81 #[.tmp 69, .tmp 70, .tmp 78] #[49, 3, 9] rfl #[.pointer (some ⟨d, 0, none⟩), .int .i64 (i : Nat), .string (streamB m D.unit r)] (by simp [Act.eval]) (enter82 _ _ _ _) _ (dansw_now d L S i E _ _ (streamB m D.unit r) _ hd5 hu) ?_; rintro vv w6 ⟨hown6, hb6⟩))
    all_goals
      have hb6' := bel_then (below_then_drew1 hb5) hb6
      have hs5 := (below_then_drew1 hb5).size
      have HD6 := hideF (HDU.out.belowQ hb6')
      have HF6 := hideF (HFU.out.then_below hb6')
      obtain ⟨a6, k6, rfl, _⟩ := own_view hown6
      have HO6 := hideF (own_base (B := w.heap.size) hown6 (by omega))
      clear c0 c1 c2 c11 c12 c13 c14 cf g0 g1 g2 gf hown6 hb5 hb6 hd5 hb6' HFR
      obtain ⟨c0, c1, c2, c11, c12, c13, c14, cf, hd6⟩ := HD6.out.cells
      have q1 : decide ((D.batch : Int) <= (D.wait.length : Int)) = false := by simp; omega
      have q2 : decide ((D.batch : Int) <= (D.uns : Int)) = false := by simp; omega
      go_wp2_with fail
      go_quiet (fail)
      go_wp2
      go_ret
      exact ⟨_, rfl, own_same HO6.out (fun _ _ => rfl), HD6.out.drewN _, HF6.out.drewN _⟩
end Go.Proofs.YtcpldcojckhapaaGreat
