/-
  
-/
import Derived.Test.YtcpldcojckhapaaGreatJ14
import Derived.Test.YtcpldcojckhapaaGreatJ27
import Derived.Deep.QuietTactic
import Derived.BigQuiet
import Derived.Laws.AppendOwnNone
import Derived.Laws.AppendOwn
set_option maxRecDepth 100000
namespace Go.Proofs.YtcpldcojckhapaaGreat
open Go.RowKit
theorem word_step (s : ByteArray) (t : Nat) (w : World) (h : t + 1 < s.size) (hs : s.size <= 4194304) :
    Calls Tryz.prog 105 #[.string s, .int .i64 (t : Nat)] w fun e w' => ∃ v, e = .returned v /\ (v = .int .i64 (256 * Pl.byt s t + Pl.byt s (t + 1) : Nat) /\ ∃ n, w' = w.drewN n) := by
  refine (rword_any s t t w rfl h hs).mono ?_
  rintro e w' ⟨rfl, n, rfl⟩
  exact ⟨_, rfl, by unfold Pl.wd; rfl, n, rfl⟩
theorem enter105 (x y : Value) (w : World) : (callFunc 105 #[x, y]).run Tryz.prog w = .ok (.enter 105 #[x, y]) w := by kernel_rfl
theorem fr_new (s : ByteArray) (t z : Nat) (w : World) (g : Nat) (hg : g = w.heap.size) : ∀ j u, (Pl.frAt s t z)[j]? = some u -> (w.alloc (.cells #[.int .i64 (256 * Pl.byt s t + Pl.byt s (t + 1) : Nat), .int .i64 (Pl.byt s (t + 6) : Nat), .string (s.extract (t + 7) (t + z))] 94)).cell? ((⟨g, 0, none⟩ : Addr).add j) = some u := by
  subst hg; exact cell_three_new w _ _ _ 94
theorem fr_one (s : ByteArray) (t z : Nat) : ∀ u ∈ Pl.frAt s t z, u.oneCell' = true := by
  intro u hu; simp [Pl.frAt] at hu; rcases hu with rfl | rfl | rfl <;> rfl
set_option maxRecDepth 100000 in
set_option maxHeartbeats 4000000 in
theorem refSplit_core (s : ByteArray) (w : World) (hs : s.size <= 4194304) :
    Calls Tryz.prog 69 #[.string s] w fun e w' => ∃ v n acc t k, e = .returned (.tuple #[v, .int .i64 (t : Nat), .int .i64 k]) /\
      w'.ownsRow w.heap.size 94 3 v n acc /\ SplIs s acc t k /\ n <= 524288 /\ Below w.heap.size w w' := by
  obtain ⟨i0, hi, hz0, hz1, hz2⟩ := info_parts Tryz.info94
  have gb := Pl.get_byt s
  go_enter Tryz.func69, Tryz.ntmps69
  go_wp2_with fail
  go_loopw [5, 6] (fun v t wr => ∃ at_ n f acc, at_ <= s.size /\ 8 * n <= at_ /\ t = .int .i64 (at_ : Nat) /\ wr.ownsRow w.heap.size 94 3 v n acc /\ s.size < at_ + f /\
    SplAt s f at_ acc /\ Below w.heap.size w wr) (fun _ t _ => s.size - (intOf t).toNat)
  case atStart => exact ⟨0, 0, s.size + 1, [], by omega, by omega, rfl, World.ownsRow_nil _ _ _ _, by omega, splAt_start s, Below.refl _ _⟩
  case round =>
    obtain ⟨t, n, f, acc, ht, hn, rfl, hown, hf, HS, hbel⟩ := hrel
    have b2 := Pl.byt_lt s (t + 2)
    have b3 := Pl.byt_lt s (t + 3)
    have b4 := Pl.byt_lt s (t + 4)
    have b5 := Pl.byt_lt s (t + 5)
    by_cases hA : Pl.byt s (t + 2) ≠ 0 ∨ Pl.byt s (t + 3) ≠ 0 ∨ Pl.byt s (t + 4) ≠ 0
    . have hbr := Pl.brkAt_true s t (hA.elim .inl fun h => h.elim (fun h => .inr (.inl h)) fun h => .inr (.inr (.inl h)))
      have HK : SplIs s acc t 4 := ⟨splAt_stop HS (Pl.wholeAt_none s t (.inr (.inl hbr))), by rw [hbr]; rfl⟩
      clear HS hbr
      by_cases h2 : Pl.byt s (t + 2) = 0
      . have t2 : ((Pl.byt s (t + 2) : Int) != 0) = false := by simp; omega
        by_cases h3 : Pl.byt s (t + 3) = 0
        . have h4 : Pl.byt s (t + 4) ≠ 0 := by omega
          have t3 : ((Pl.byt s (t + 3) : Int) != 0) = false := by simp; omega
          have t4 : ((Pl.byt s (t + 4) : Int) != 0) = true := by simp; omega
          have hd : t + 4 < s.size := Classical.byContradiction fun h => h4 (Pl.byt_end s _ (by omega))
          clear hA h2 h3 h4
          go_wp2
          go_ret3
          exact ⟨u5, n, acc, t, 4, rfl, hown, HK, by omega, hbel⟩
        . have t3 : ((Pl.byt s (t + 3) : Int) != 0) = true := by simp; omega
          have hd : t + 3 < s.size := Classical.byContradiction fun h => h3 (Pl.byt_end s _ (by omega))
          clear hA h2 h3
          go_wp2
          go_ret3
          exact ⟨u5, n, acc, t, 4, rfl, hown, HK, by omega, hbel⟩
      . have t2 : ((Pl.byt s (t + 2) : Int) != 0) = true := by simp; omega
        have hd : t + 2 < s.size := Classical.byContradiction fun h => h2 (Pl.byt_end s _ (by omega))
        clear hA h2
        go_wp2
        go_ret3
        exact ⟨u5, n, acc, t, 4, rfl, hown, HK, by omega, hbel⟩
    . have h2 : Pl.byt s (t + 2) = 0 := by omega
      have h3 : Pl.byt s (t + 3) = 0 := by omega
      have h4 : Pl.byt s (t + 4) = 0 := by omega
      have t2 : ((Pl.byt s (t + 2) : Int) != 0) = false := by simp; omega
      have t3 : ((Pl.byt s (t + 3) : Int) != 0) = false := by simp; omega
      have t4 : ((Pl.byt s (t + 4) : Int) != 0) = false := by simp; omega
      clear hA
      by_cases h6 : s.size - t < 6
      . have hbr := Pl.brkAt_false s t h2 h3 h4 (fun h => by omega)
        have HK : SplIs s acc t 0 := ⟨splAt_stop HS (Pl.wholeAt_none s t (.inl h6)), by rw [hbr]; rfl⟩
        clear HS hbr h2 h3 h4
        rcases (show s.size <= t + 2 ∨ (t + 3 <= s.size /\ s.size <= t + 3) ∨ (t + 4 <= s.size /\ s.size <= t + 4) ∨ (t + 5 <= s.size /\ s.size <= t + 5) by omega) with hd | ⟨hd, hd'⟩ | ⟨hd, hd'⟩ | ⟨hd, hd'⟩
        all_goals
          go_wp2
          go_ret3
          exact ⟨u5, n, acc, t, 0, rfl, hown, HK, by omega, hbel⟩
      . by_cases hlo : Pl.byt s (t + 5) < 2
        . have hbr := Pl.brkAt_true s t (.inr (.inr (.inr ⟨by omega, .inl hlo⟩)))
          have HK : SplIs s acc t 4 := ⟨splAt_stop HS (Pl.wholeAt_none s t (.inr (.inl hbr))), by rw [hbr]; rfl⟩
          clear HS hbr h2 h3 h4
          go_wp2
          go_ret3
          exact ⟨u5, n, acc, t, 4, rfl, hown, HK, by omega, hbel⟩
        . by_cases hhi : 254 < Pl.byt s (t + 5)
          . have hbr := Pl.brkAt_true s t (.inr (.inr (.inr ⟨by omega, .inr hhi⟩)))
            have HK : SplIs s acc t 4 := ⟨splAt_stop HS (Pl.wholeAt_none s t (.inr (.inl hbr))), by rw [hbr]; rfl⟩
            clear HS hbr h2 h3 h4
            go_wp2
            go_ret3
            exact ⟨u5, n, acc, t, 4, rfl, hown, HK, by omega, hbel⟩
          . have hbr := Pl.brkAt_false s t h2 h3 h4 (fun h => by omega)
            by_cases hwh : s.size - t < 6 + Pl.byt s (t + 5)
            . have HK : SplIs s acc t 0 := ⟨splAt_stop HS (Pl.wholeAt_none s t (.inr (.inr hwh))), by rw [hbr]; rfl⟩
              clear HS hbr h2 h3 h4
              go_wp2
              go_ret3
              exact ⟨u5, n, acc, t, 0, rfl, hown, HK, by omega, hbel⟩
            . have hwa := Pl.wholeAt_some s t (by omega) hbr (by omega)
              obtain ⟨f, rfl⟩ : ∃ g, f = g + 1 := ⟨f - 1, by omega⟩
              have HN := splAt_step HS (by omega)
              rw [hwa] at HN
              obtain ⟨k, hk⟩ : ∃ k, k = Pl.byt s (t + 5) := ⟨_, rfl⟩
              have gk : (Pl.byt s (t + 5)) = k := hk.symm
              rw [gk] at HN hwh hhi hlo
              have hsz := hbel.size
              have b6 := Pl.byt_lt s (t + 6)
              have w6 : IntKind.i64.wrap ((t : Int) + 6) = (t : Int) + 6 := by rw [IntKind.wrap_i64]; omega
              have w7 : IntKind.i64.wrap ((t : Int) + 7) = (t : Int) + 7 := by rw [IntKind.wrap_i64]; omega
              have wk : IntKind.i64.wrap ((t : Int) + 6 + (k : Int)) = (t : Int) + 6 + (k : Int) := by rw [IntKind.wrap_i64]; omega
              have wb : IntKind.i64.wrap (Pl.byt s (t + 6) : Int) = Pl.byt s (t + 6) := by rw [IntKind.wrap_i64]; omega
              have l6 : (t : Int) + 6 < s.size := by omega
              have p6 : 0 <= (t : Int) + 6 := by omega
              have p7 : 0 <= (t : Int) + 7 := by omega
              have l7 : (t : Int) + 7 <= (t : Int) + 6 + (k : Int) := by omega
              have lk : (t : Int) + 6 + (k : Int) <= s.size := by omega
              have n6 : ((t : Int) + 6).toNat = t + 6 := by omega
              have n7 : ((t : Int) + 7).toNat = t + 7 := by omega
              have nk : ((t : Int) + 6 + (k : Int)).toNat = t + (6 + k) := by omega
              clear HS hbr h2 h3 h4 hwa hk
              go_wp2_with fail
              go_region_law (first
                | (refine step_call rfl 105 #[.tmp 70, .tmp 71] #[9, 3] rfl #[.string s, .int .i64 (t : Nat)] (by simp [Act.eval, Act.put]) (enter105 _ _ _) _ (word_step s t _ (by omega) hs) ?_; rintro v w' ⟨rfl, nq, rfl⟩)
                | (refine step_append_own rfl (.tmp 69) (.tmp 87) 29 rfl w.heap.size 94 i0 (.agg #[.int .i64 0, .int .i64 0, .string ⟨#[]⟩]) 3 32 Tryz.underlying29 hi hz0 hz1 hz2 rfl (by decide) u5 n acc (by simp [Act.eval]) ((ownsRow_heap rfl hown).alloc _) ⟨wr.heap.size, 0, none⟩ 1 1 (Pl.frAt s t (6 + k)) (by simp [Act.eval]) rfl (fr_new _ _ _ _ _ rfl) (fr_one _ _ _) (by unfold maxLen; omega) (by omega) (by simp; omega) ?_; intro v' w3 hown3 hgrow3))
              all_goals
                have hbel3 : Below w.heap.size w w3 := ((below_drewN hbel _).alloc hsz _).grown hgrow3 (by simp; omega) (fun q hq => (hown.lt q hq).1)
                clear hgrow3 hown w6 w7 wk wb l6 p6 p7 l7 n6 n7 nk t2 t3 t4 gk
                go_wp2
                go_roundw
                case rel => exact ⟨t + (6 + k), n + 1, f, _, by omega, by omega, vint (by omega), hown3, by omega, HN, hbel3⟩
                case measure => simp [intOf]; omega
end Go.Proofs.YtcpldcojckhapaaGreat

set_option maxRecDepth 100000
namespace Go.Proofs.YtcpldcojckhapaaGreat
open Go.RowKit
theorem twoB_words (n : Nat) : twoB n = wordsB [n] := by
  unfold twoB wordsB wordsI bytesOf
  simp
  constructor <;> congr 1 <;> omega
set_option maxHeartbeats 1000000 in
theorem rtwo_any (n : Nat) (w : World) (hn : n < 65536) : Calls Tryz.prog 136 #[.int .i64 (n : Nat)] w fun e w' => e = .returned (.string (twoB n)) /\ Below w.heap.size w w' := by
  have c2 := conv2
  go_enter Tryz.func136, Tryz.ntmps136
  go_wp2
  go_ret
  exact ⟨rfl, (Below.refl _ _).alloc (Nat.le_refl _) _⟩
theorem rtwo_step (x : Int) (n : Nat) (hx : x = n) (w : World) (h4 : n < 65536) :
    Calls Tryz.prog 136 #[.int .i64 x] w fun e w' => ∃ v, e = .returned v /\ (v = .string (twoB n) /\ Below w.heap.size w w') := by
  subst hx
  refine (rtwo_any n w h4).mono ?_
  rintro e w' ⟨rfl, hb⟩
  exact ⟨_, rfl, rfl, hb⟩
theorem enter136 (x : Value) (w : World) : (callFunc 136 #[x]).run Tryz.prog w = .ok (.enter 136 #[x]) w := by kernel_rfl
set_option maxHeartbeats 1000000 in
theorem rhas_any (w : World) (B : Nat) (c : Nat -> Nat) (p : Rfm) (D : Dev) (left : List (List Int)) (safe : Nat) (ys : Nat -> ByteArray) (zs : Nat -> Bool) (t a n : Nat) (h : RefIn w B c p D left safe ys zs) (ht : t < 4) (ha : a <= 100000) (hn : n <= 100000) :
    Calls Tryz.prog 133 #[.pointer (some ⟨p.r, 0, none⟩), .int .i64 (t : Nat), .int .i64 (a : Nat), .int .i64 (n : Nat)] w fun e w' => e = .returned (.bool (decide (a + n <= D.sz t))) /\ w' = w := by
  have hc := h.cellT ht
  clear h
  have e1 : decide ((a : Int) + (n : Int) <= (D.sz t : Int)) = decide (a + n <= D.sz t) := by
    apply decide_eq_decide.2; omega
  go_enter Tryz.func133, Tryz.ntmps133
  go_wp2
  go_ret
  exact ⟨rfl, rfl⟩
theorem mask_bit (n a o q : Nat) (hq : q < 16) : maskN n a o / 2 ^ q % 2 = if a / 2 ^ q % 2 = 1 then n / 2 ^ q % 2 else o / 2 ^ q % 2 := by
  have h1 : (maskN n a o).testBit q = if a.testBit q then n.testBit q else o.testBit q := by
    unfold maskN
    rw [Nat.testBit_or, Nat.testBit_and, Nat.testBit_and, Nat.testBit_xor]
    have : (65535 : Nat).testBit q = true := by
      rcases (show q = 0 ∨ q = 1 ∨ q = 2 ∨ q = 3 ∨ q = 4 ∨ q = 5 ∨ q = 6 ∨ q = 7 ∨ q = 8 ∨ q = 9 ∨ q = 10 ∨ q = 11 ∨ q = 12 ∨ q = 13 ∨ q = 14 ∨ q = 15 by omega) with h | h | h | h | h | h | h | h | h | h | h | h | h | h | h | h <;> subst h <;> decide
    rw [this]
    cases a.testBit q <;> cases n.testBit q <;> cases o.testBit q <;> rfl
  rw [Nat.testBit_eq_decide_div_mod_eq, Nat.testBit_eq_decide_div_mod_eq, Nat.testBit_eq_decide_div_mod_eq, Nat.testBit_eq_decide_div_mod_eq] at h1
  by_cases ha : a / 2 ^ q % 2 = 1
  . simp only [ha, decide_true, if_true] at h1 ⊢
    have := decide_eq_decide.1 h1
    omega
  . simp only [ha, decide_false, if_false] at h1 ⊢
    have := decide_eq_decide.1 h1
    omega
theorem mask_lt (n a o : Nat) (hn : n < 65536) (ho : o < 65536) : maskN n a o < 65536 := by
  unfold maskN
  refine Nat.or_lt_two_pow (n := 16) ?_ ?_
  . exact Nat.lt_of_le_of_lt Nat.and_le_left hn
  . exact Nat.lt_of_le_of_lt Nat.and_le_left ho
set_option maxHeartbeats 2000000 in
theorem rmasked_any (n x y : Nat) (w : World) (hn : n < 65536) (hx : x < 65536) (hy : y < 65536) : Calls Tryz.prog 134 #[.int .i64 (n : Nat), .int .i64 (x : Nat), .int .i64 (y : Nat)] w fun e w' => e = .returned (.int .i64 (maskN n x y : Nat)) /\ w' = w := by
  have hml := mask_lt n x y hn hy
  obtain ⟨M, hM⟩ : ∃ M, M = maskN n x y := ⟨_, rfl⟩
  have HM := hideF hM
  rw [<- hM] at hml ⊢
  clear hM
  go_enter Tryz.func134, Tryz.ntmps134
  go_wp2_with fail
  go_loopw [7, 8] (fun out b wr => ∃ q : Nat, q <= 16 /\ b = .int .i64 ((2 ^ q : Nat) : Int) /\ out = .int .i64 ((M % 2 ^ q : Nat) : Int) /\ wr = w) (fun _ b _ => 65536 - (intOf b).toNat)
  case atStart => exact ⟨0, by omega, rfl, by simp [Nat.mod_one], rfl⟩
  case round =>
    obtain ⟨q, hq, rfl, rfl, rfl⟩ := hrel
    by_cases hlt : q < 16
    . have hP : 2 ^ q <= 2 ^ 15 := Nat.pow_le_pow_right (by omega) (by omega)
      have hP0 : 0 < 2 ^ q := Nat.pow_pos (by omega)
      have hP2 : 2 ^ (q + 1) = 2 * 2 ^ q := by rw [Nat.pow_succ]; omega
      have hms : M % 2 ^ (q + 1) = M % 2 ^ q + 2 ^ q * (M / 2 ^ q % 2) := Nat.mod_pow_succ
      have hb := mask_bit n x y q hlt
      rw [<- HM.out] at hb
      obtain ⟨P, hPe⟩ : ∃ P, P = 2 ^ q := ⟨_, rfl⟩
      obtain ⟨R, hRe⟩ : ∃ R, R = M % P := ⟨_, rfl⟩
      have hRl : R < P := by rw [hRe]; exact Nat.mod_lt _ (by rw [hPe]; exact hP0)
      obtain ⟨yd, hyd⟩ : ∃ k, k = y / P := ⟨_, rfl⟩
      obtain ⟨ym, hym⟩ : ∃ k, k = yd % 2 := ⟨_, rfl⟩
      obtain ⟨xd, hxd⟩ : ∃ k, k = x / P := ⟨_, rfl⟩
      obtain ⟨xm, hxm⟩ : ∃ k, k = xd % 2 := ⟨_, rfl⟩
      obtain ⟨nd, hnd⟩ : ∃ k, k = n / P := ⟨_, rfl⟩
      obtain ⟨nm, hnm⟩ : ∃ k, k = nd % 2 := ⟨_, rfl⟩
      have a1 : Int.tdiv (y : Int) (P : Int) = (yd : Int) := by rw [hyd]; exact (Int.ofNat_tdiv y P).symm
      have a2 : Int.tmod (yd : Int) 2 = (ym : Int) := by rw [hym]; exact (Int.ofNat_tmod yd 2).symm
      have a3 : Int.tdiv (x : Int) (P : Int) = (xd : Int) := by rw [hxd]; exact (Int.ofNat_tdiv x P).symm
      have a4 : Int.tmod (xd : Int) 2 = (xm : Int) := by rw [hxm]; exact (Int.ofNat_tmod xd 2).symm
      have a5 : Int.tdiv (n : Int) (P : Int) = (nd : Int) := by rw [hnd]; exact (Int.ofNat_tdiv n P).symm
      have a6 : Int.tmod (nd : Int) 2 = (nm : Int) := by rw [hnm]; exact (Int.ofNat_tmod nd 2).symm
      have l1 : yd <= y := by rw [hyd]; exact Nat.div_le_self _ _
      have l3 : xd <= x := by rw [hxd]; exact Nat.div_le_self _ _
      have l5 : nd <= n := by rw [hnd]; exact Nat.div_le_self _ _
      have l2 : ym <= 1 := by omega
      have l4 : xm <= 1 := by omega
      have l6 : nm <= 1 := by omega
      have hne : ¬ ((P : Int) = 0) := by omega
      have hPl : (P : Int) < 65536 := by omega
      rw [<- hPe, <- hxd, <- hxm, <- hnd, <- hnm, <- hyd, <- hym] at hb
      rw [<- hPe, <- hRe, hb] at hms
      rw [<- hPe] at hP hP0 hP2
      rw [<- hPe, <- hRe]
      have HMS := hideF hms
      have HP2 := hideF hP2
      clear hms hb hPe hRe hyd hym hxd hxm hnd hnm hP2
      by_cases hx1 : xm = 1
      . have t4 : ((xm : Int) == 1) = true := by simp; omega
        have e1 : nm = 0 ∨ nm = 1 := by omega
        rcases e1 with rfl | rfl
        all_goals
          go_wp2
          go_roundw
          case rel =>
            have := HMS.out
            rw [if_pos hx1] at this
            refine ⟨q + 1, by omega, ?_, ?_, trivial⟩
            . rw [HP2.out]; go_num
            . rw [this]; go_num
          case measure => have := HP2.out; simp [intOf]; omega
      . have t4 : ((xm : Int) == 1) = false := by simp; omega
        have e1 : ym = 0 ∨ ym = 1 := by omega
        rcases e1 with rfl | rfl
        all_goals
          go_wp2
          go_roundw
          case rel =>
            have := HMS.out
            rw [if_neg hx1] at this
            refine ⟨q + 1, by omega, ?_, ?_, trivial⟩
            . rw [HP2.out]; go_num
            . rw [this]; go_num
          case measure => have := HP2.out; simp [intOf]; omega
    . obtain rfl : q = 16 := by omega
      have hm : M % 2 ^ 16 = M := Nat.mod_eq_of_lt (by omega)
      rw [hm]
      go_wp2
      go_ret
      exact ⟨rfl, rfl⟩
end Go.Proofs.YtcpldcojckhapaaGreat

set_option maxRecDepth 100000
namespace Go.Proofs.YtcpldcojckhapaaGreat
open Go.RowKit
def keptL (f : Nat -> Nat -> Int) (k0 k2 : Nat) : List Int := (List.range k0).map (f 0) ++ (List.range k2).map (f 2)
theorem keptL_len (f : Nat -> Nat -> Int) (k0 k2 : Nat) : (keptL f k0 k2).length = k0 + k2 := by simp [keptL]
theorem ne_types {w : World} {g g' : Nat} {a b : Array Value} {t t' : TypeId} (h : w.heap[g]? = some (.cells a t (0, 0))) (h' : w.heap[g']? = some (.cells b t' (0, 0))) (ht : t ≠ t') : g ≠ g' := fun e => by
  subst e
  rw [h] at h'
  simp only [Option.some.injEq, Obj.cells.injEq, and_true] at h'
  exact ht h'.2
section
variable {w w' : World} {B : Nat} {c : Nat -> Nat} {p : Rfm} {D : Dev} {left : List (List Int)} {safe : Nat} {ys : Nat -> ByteArray} {zs : Nat -> Bool}
theorem RefIn.turn {wv' lv' : Value} {vs' : List Value} {D' : Dev} {left' : List (List Int)} {safe' : Nat} {c' : Nat -> Nat} (h : RefIn w B c p D left safe ys zs) (hc : Chg1 p.r w w') (ha : Agr w c c') (hd : w'.heap[p.r]? = some (.cells (refC { p with wv := wv', lv := lv', vs := vs' } D' safe') 48 (0, 0)))
    (e1 : D'.sz = D.sz) (e2 : D'.ent = D.ent) (e3 : D'.nl = D.nl) (e4 : D'.ln = D.ln) (hwt : w'.ownsRow B 113 3 wv' D'.wait.length (D'.wait.flatMap encW)) (hlf : w'.ownsRow B 28 1 lv' left'.length vs') (hlfs : ∀ (j : Nat) (l : List Int), left'[j]? = some l -> ∃ v, vs'[j]? = some v /\ w'.ownsRow B 3 1 v l.length (l.flatMap encI) /\ ∀ g, v.ownBlock = some g -> c' g = 4) (hcw : ∀ g, wv'.ownBlock = some g -> c' g = 3) (hcl : ∀ g, lv'.ownBlock = some g -> c' g = 3) :
    RefIn w' B c' { p with wv := wv', lv := lv', vs := vs' } D' left' safe' ys zs := by
  obtain ⟨cb, hcb⟩ := h.lnb
  have hl : w'.heap[p.lb]? = w.heap[p.lb]? := hc.block _ (lt_of_block hcb) (ne_types hcb h.dev (by decide))
  refine ⟨hd, fun i hi => ?_, h.inj, ⟨cb, hl.trans hcb⟩, fun i hi => ?_, ?_, ?_, hwt, hlf, hlfs, (ha _ (lt_of_block h.dev)).trans h.cr, fun i hi => (ha _ (h.tab i hi).lt).trans (h.cG i hi), (ha _ h.ybs.lt).trans h.cy, (ha _ h.zbs.lt).trans h.cz, hcw, hcl, (ha _ (lt_of_block hcb)).trans h.cb, h.lo.1, h.lo.2.1, h.lo.2.2.1, h.lo.2.2.2.1, Nat.le_trans h.lo.2.2.2.2 hc.size⟩
  . obtain ⟨cg, hcg⟩ := (h.tab i hi).block
    rw [e1, e2]
    exact (h.tab i hi).same (hc.block _ (lt_of_block hcg) (ne_types hcg h.dev (by decide)))
  . rw [e3] at hi
    rw [e4]
    have := h.lns i hi
    unfold World.cell? at this ⊢
    simp only at this ⊢
    rw [hl]; exact this
  . obtain ⟨cg, hcg⟩ := h.ybs.block
    rw [e3]
    exact h.ybs.same (hc.block _ (lt_of_block hcg) (ne_types hcg h.dev (by decide)))
  . obtain ⟨cg, hcg⟩ := h.zbs.block
    rw [e3]
    exact h.zbs.same (hc.block _ (lt_of_block hcg) (ne_types hcg h.dev (by decide)))
theorem RefIn.put {j : Nat} {f : Nat -> Nat -> Int} (h : RefIn w B c p D left safe ys zs) (hj : j < 4) (hc : Chg1 (p.G j) w w') (hG : Grid w' (p.G j) 3 (D.sz j) 1 (fun k _ => .int .i64 (f j k))) (ho : ∀ i k, i ≠ j -> f i k = D.ent i k) :
    RefIn w' B c p { D with ent := f } left safe ys zs := by
  obtain ⟨cb, hcb⟩ := h.lnb
  obtain ⟨cj, hcj⟩ := (h.tab j hj).block
  have hne : ∀ {g : Nat} {cur : Array Value} {t : TypeId}, w.heap[g]? = some (.cells cur t (0, 0)) -> t ≠ 3 -> w'.heap[g]? = w.heap[g]? := fun hg ht => hc.block _ (lt_of_block hg) (ne_types hg hcj ht)
  have hl : w'.heap[p.lb]? = w.heap[p.lb]? := hc.block _ (lt_of_block hcb) (fun e => by have h1 := h.cb; have h2 := h.cG j hj; rw [e] at h1; omega)
  refine ⟨(hne h.dev (by decide)).trans h.dev, fun i hi => ?_, h.inj, ⟨cb, hl.trans hcb⟩, fun i hi => ?_, ?_, ?_, own_same h.wt fun g hg => ?_, own_same h.lf fun g hg => ?_, fun q l hq => ?_, h.cr, h.cG, h.cy, h.cz, h.cw, h.cl, h.cb, h.lo.1, h.lo.2.1, h.lo.2.2.1, h.lo.2.2.2.1, Nat.le_trans h.lo.2.2.2.2 hc.size⟩
  . by_cases e : i = j
    . subst e; exact hG
    . have := (h.tab i hi).same (hc.block _ (h.tab i hi).lt (h.inj i j hi hj e))
      exact this.congr fun k _ _ _ => by show Value.int .i64 _ = Value.int .i64 (f i k); rw [ho i k e]
  . have := h.lns i hi
    unfold World.cell? at this ⊢
    simp only at this ⊢
    rw [hl]; exact this
  . obtain ⟨cg, hcg⟩ := h.ybs.block
    exact h.ybs.same (hne hcg (by decide))
  . obtain ⟨cg, hcg⟩ := h.zbs.block
    exact h.zbs.same (hne hcg (by decide))
  . obtain ⟨cg, hcg⟩ := own_block h.wt g hg
    exact hne hcg (by decide)
  . obtain ⟨cg, hcg⟩ := own_block h.lf g hg
    exact hne hcg (by decide)
  . obtain ⟨v, h1, h2, h3⟩ := h.lfs q l hq
    refine ⟨v, h1, own_same h2 fun g hg => hc.block g (h2.lt g hg).2 (fun e => ?_), h3⟩
    have := h3 g hg
    have h5 := h.cG j hj
    rw [e] at this
    omega
end
theorem src_at (f : Nat -> Int) (n k : Nat) (u : Value) (h : (((List.range n).map f).flatMap encI)[k]? = some u) : k < n /\ u = .int .i64 (f k) := by
  obtain ⟨x, h1, h2⟩ := encI_atL _ k u h
  rw [List.getElem?_map] at h1
  obtain ⟨y, h3, h4⟩ := Option.map_eq_some_iff.1 h1
  obtain ⟨h5, h6⟩ := List.getElem?_eq_some_iff.1 h3
  simp at h5 h6
  exact ⟨h5, by rw [h2, <- h4, h6]⟩
theorem ent_src {w : World} {B : Nat} {c : Nat -> Nat} {p : Rfm} {D : Dev} {left : List (List Int)} {safe : Nat} {ys : Nat -> ByteArray} {zs : Nat -> Bool} (h : RefIn w B c p D left safe ys zs) {i n : Nat} (hi : i < 4) (hn : n <= D.sz i) :
    ∀ j u, (((List.range n).map (D.ent i)).flatMap encI)[j]? = some u -> w.cell? ((⟨p.G i, 0, none⟩ : Addr).add j) = some u := fun j u hj => by
  obtain ⟨h1, rfl⟩ := src_at _ _ _ _ hj
  have e : (⟨p.G i, 0, none⟩ : Addr).add j = ⟨p.G i, j, none⟩ := by by_cases h0 : j = 0 <;> simp [Addr.add, h0]
  rw [e]
  exact h.entT hi (by omega)
theorem src_len (f : Nat -> Int) (n : Nat) : (((List.range n).map f).flatMap encI).length = n * 1 := by rw [encI_len]; simp
set_option maxHeartbeats 2000000 in
theorem rkept_any (w : World) (B : Nat) (c : Nat -> Nat) (p : Rfm) (D : Dev) (left : List (List Int)) (safe : Nat) (ys : Nat -> ByteArray) (zs : Nat -> Bool) (h : RefIn w B c p D left safe ys zs) (hz : ∀ i, i < 4 -> D.sz i <= 60) (hk0 : D.kp 0 <= D.sz 0) (hk2 : D.kp 2 <= D.sz 2) :
    Calls Tryz.prog 55 #[.pointer (some ⟨p.r, 0, none⟩)] w fun e w' => ∃ v, e = .returned v /\ w'.ownsRow w.heap.size 3 1 v (D.kp 0 + D.kp 2) ((keptL D.ent (D.kp 0) (D.kp 2)).flatMap encI) /\ Below w.heap.size w w' := by
  obtain ⟨i0, hi, hz0, hz1, hz2⟩ := info_parts Tryz.infoEI
  have z0 := hz 0 (by omega)
  have z2 := hz 2 (by omega)
  obtain ⟨c4, c5, _, _, _, _, _, _, _, _, _, _, hrl⟩ := h.cells
  have t0 : w.cell? ⟨p.r, 9, none⟩ = _ := h.cellT (i := 0) (by omega)
  have t2 : w.cell? ⟨p.r, 11, none⟩ = _ := h.cellT (i := 2) (by omega)
  have HS0 := hideF (ent_src h (i := 0) (n := D.kp 0) (by omega) hk0)
  have HS2 := hideF (ent_src h (i := 2) (n := D.kp 2) (by omega) hk2)
  have hG2 := (h.tab 2 (by omega)).lt
  have HL0 := hideF (src_len (D.ent 0) (D.kp 0))
  have HL2 := hideF (src_len (D.ent 2) (D.kp 2))
  have k0 : (D.kp 0 : Int) <= (D.sz 0 : Int) := by omega
  have k2 : (D.kp 2 : Int) <= (D.sz 2 : Int) := by omega
  clear h hz
  go_enter Tryz.func55, Tryz.ntmps55
  go_wp2_with fail
  go_region_law (refine step_append_own rfl (.tmp 4) (.tmp 15) 28 rfl w.heap.size 3 i0 (.int .i64 0) 1 8 Tryz.underlying28 hi hz0 hz1 hz2 rfl (by decide) (.slice none 0 0) 0 [] (by simp [Act.eval, Act.put]) (World.ownsRow_nil _ _ _ _) ⟨p.G 0, 0, none⟩ (D.kp 0) (D.sz 0) (((List.range (D.kp 0)).map (D.ent 0)).flatMap encI) (by simp [Act.eval, Act.put]) HL0.out (by intro j u hj; exact HS0.out j u hj) (encI_one _) (by unfold maxLen; omega) (by omega) (by simp) ?_; intro v1 w1 hown1 hgrow1)
  all_goals
    have hb1 : Below w.heap.size w w1 := (below_drewN (Below.refl _ _) 1).trans ⟨hgrow1.os, hgrow1.tape, hgrow1.output, hgrow1.size, fun k hk => hgrow1.block k hk (by simp [Value.ownBlock])⟩
    rw [Nat.zero_add, List.nil_append] at hown1
    have HO1 := hideF hown1
    have HB1 := hideF hb1
    have hs1 := hb1.size
    have HS2' : Hid (∀ j u, (((List.range (D.kp 2)).map (D.ent 2)).flatMap encI)[j]? = some u -> w1.cell? ((⟨p.G 2, 0, none⟩ : Addr).add j) = some u) := fun j u hj => by
      have e : (⟨p.G 2, 0, none⟩ : Addr).add j = ⟨p.G 2, j, none⟩ := by by_cases h0 : j = 0 <;> simp [Addr.add, h0]
      rw [e, (bcell hb1).1 _ _ hG2, <- e]
      exact HS2.out j u hj
    have d5 := ((bcell hb1).1 _ _ hrl).trans c5
    have d2 := ((bcell hb1).1 _ _ hrl).trans t2
    clear c4 c5 t0 t2 hgrow1 hb1 hown1
    go_wp2_with fail
    go_region_law (refine step_append_own rfl (.tmp 17) (.tmp 28) 28 rfl w.heap.size 3 i0 (.int .i64 0) 1 8 Tryz.underlying28 hi hz0 hz1 hz2 rfl (by decide) v1 (D.kp 0) (((List.range (D.kp 0)).map (D.ent 0)).flatMap encI) (by simp [Act.eval, Act.put]) (ownsRow_heap rfl HO1.out) ⟨p.G 2, 0, none⟩ (D.kp 2) (D.sz 2) (((List.range (D.kp 2)).map (D.ent 2)).flatMap encI) (by simp [Act.eval, Act.put]) HL2.out (by intro j u hj; exact HS2'.out j u hj) (encI_one _) (by unfold maxLen; omega) (by omega) (by simp; omega) ?_; intro v2 w2 hown2 hgrow2)
    all_goals
      have hb2 : Below w.heap.size w w2 := HB1.out.trans ((below_drewN (Below.refl _ _) 1).trans ⟨hgrow2.os, hgrow2.tape, hgrow2.output, hgrow2.size, fun k hk => hgrow2.block k (Nat.lt_of_lt_of_le hk hs1) (fun e => by have := (HO1.out.lt k e.symm).1; omega)⟩)
      obtain ⟨a2, k2', rfl, _⟩ := own_view hown2
      have HO2 := hideF hown2
      have HB2 := hideF hb2
      clear hown2 hgrow2 hb2
      go_wp2
      go_ret
      refine ⟨_, rfl, ?_, HB2.out⟩
      unfold keptL
      rw [List.flatMap_append]
      exact HO2.out
end Go.Proofs.YtcpldcojckhapaaGreat

set_option maxRecDepth 100000
namespace Go.Proofs.YtcpldcojckhapaaGreat
open Go
theorem wpList_append_any {P : Program} {w : World} {ops : Array Oper} {rest : List Oper} {o : Oper} {a : Act} {Q : Exit -> Act -> World -> Prop} (hgd : o.guard = none) (s x : Operand) (t : TypeId)
    (ho : o.op = .call { callee := .builtin .append, args := #[s, x], argTypes := #[t, t] })
    (base base2 : Nat) (e : TypeId) (i : TypeInfo) (z : Value) (size bytes : Nat) (ht : P.underlying t = some (.slice e)) (hi : P.info? e = some i) (hz : i.zero = some z)
    (hsize : i.size = size) (hby : i.bytes = bytes) (hzs : z.cells.size = size) (hsz : 0 < size)
    (v : Value) (n : Nat) (xs : List Value) (hs : a.eval s = v) (hown : w.ownsRow base e size v n xs)
    (v2 : Value) (m : Nat) (news : List Value) (hx : a.eval x = v2) (hown2 : w.ownsRow base2 e size v2 m news) (h1 : ∀ u ∈ news, u.oneCell' = true)
    (h63 : n + m <= maxLen) (hbytes : (n + m) * bytes <= 140737488355328) (hbase : base <= w.heap.size)
    (h : ∀ v' w', w'.ownsRow base e size v' (n + m) (xs ++ news) -> w.grownBy w' v.ownBlock -> wpList P ops Q rest (a.put o.dst v') w') : wpList P ops Q (o :: rest) a w := by
  rcases hown2.2 with ⟨rfl, rfl⟩ | ⟨g, cap, cur, rfl, hb, hg, g1, g2, g3, g4⟩
  . have hn : news = [] := List.eq_nil_of_length_eq_zero (by rw [hown2.1]; simp)
    subst hn
    refine wpList_append_own_none hgd s x t ho base e i size ht hi v n xs hs hown hx (h v w ?_ ⟨rfl, rfl, rfl, Nat.le_refl _, fun _ _ _ => rfl⟩)
    rw [List.append_nil, Nat.add_zero]; exact hown
  . refine wpList_append_own w hgd s x t ho base e i z size bytes ht hi hz hsize hby hzs hsz v n xs hs hown ⟨g, 0, none⟩ m cap news hx hown2.1 (fun j u hj => ?_) h1 h63 hbytes hbase (fun v' w' h2 h3 _ => h v' w' h2 h3)
    have e0 : (⟨g, 0, none⟩ : Addr).add j = ⟨g, j, none⟩ := by by_cases h0 : j = 0 <;> simp [Addr.add, h0]
    have hj' : j < m * size := by rw [<- hown2.1]; exact (List.getElem?_eq_some_iff.1 hj).1
    rw [e0, hown2.cellAt j hj', hj]
end Go.Proofs.YtcpldcojckhapaaGreat
