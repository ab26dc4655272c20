/-
  The walk of the law Splits.
-/
import Derived.Test.YtcpldcojckhapaaBookE
import Derived.Test.YtcpldcojckhapaaRef
import Derived.Test.YtcpldcojckhapaaSer
set_option maxRecDepth 100000
namespace Go.Proofs.Ytcpldcojckhapaa
open Go.RowKit

theorem frAt_frC (s : ByteArray) (t n : Nat) : Pl.frAt s t n = Pl.frC (256 * Pl.byt s t + Pl.byt s (t + 1), Pl.byt s (t + 6), s.extract (t + 7) (t + n)) := rfl
theorem spl_frs (s : ByteArray) (f : Nat) : ∀ t, ∃ fs : List (Nat × Nat × ByteArray), (Pl.spl s f t).1 = fs.flatMap Pl.frC := by
  induction f with
  | zero => intro t; exact ⟨[], rfl⟩
  | succ f ih =>
    intro t
    by_cases hw : Pl.wholeAt s t = 0
    · exact ⟨[], by rw [Pl.spl_stop s _ t hw]; rfl⟩
    · obtain ⟨fs, h⟩ := ih (t + Pl.wholeAt s t)
      exact ⟨(256 * Pl.byt s t + Pl.byt s (t + 1), Pl.byt s (t + 6), s.extract (t + 7) (t + Pl.wholeAt s t)) :: fs, by rw [Pl.spl_step s f t hw, List.flatMap_cons, ← frAt_frC, ← h]⟩
theorem own_base {w : World} {B B' : Nat} {e : TypeId} {size : Nat} {v : Value} {n : Nat} {xs : List Value} (h : w.ownsRow B' e size v n xs) (hb : B ≤ B') : w.ownsRow B e size v n xs := by
  refine ⟨h.1, ?_⟩
  rcases h.2 with h0 | ⟨g, cap, cur, hv, hg, r⟩
  · exact .inl h0
  · exact .inr ⟨g, cap, cur, hv, Nat.le_trans hb hg, r⟩
/-- Both Splits of one text, one behind the other: the same. -/
theorem splIs_eq {s : ByteArray} {a b : List Value} {t u : Nat} {k l : Int} (h : SplIs s a t k) (h' : SplIs s b u l) : a = b ∧ t = u ∧ k = l := by
  obtain ⟨h1, h2⟩ := h
  obtain ⟨h3, h4⟩ := h'
  rw [h1] at h3
  obtain ⟨rfl, rfl⟩ := Prod.mk.inj h3
  exact ⟨rfl, rfl, h2.trans h4.symm⟩
theorem splIs_frs {s : ByteArray} {a : List Value} {t : Nat} {k : Int} (h : SplIs s a t k) : ∃ fs : List (Nat × Nat × ByteArray), a = fs.flatMap Pl.frC := by
  obtain ⟨fs, hf⟩ := spl_frs s (s.size + 1) 0
  refine ⟨fs, ?_⟩
  rw [← hf]
  exact (congrArg Prod.fst h.1).symm

/-- The book as it stands between two rounds. -/
def BookSt (w : World) (B kb N : Nat) (vF vC vW : Value) (fs : List (Nat × Nat × ByteArray)) : Prop :=
  w.heap[kb]? = some (.cells #[.slice none 0 0, vF, .slice none 0 0, .slice none 0 0, .bool false, .slice none 0 0, .slice none 0 0, vC, vW, .slice none 0 0, .slice none 0 0, .slice none 0 0, .slice none 0 0] 35 (0, 0)) ∧
  ListsIn w B 31 40 3 mkF vF N (fun g => vC.ownBlock ≠ some g) ∧ w.ownsRow B 40 3 vC fs.length (fs.flatMap Pl.frC) ∧ w.ownsRow B 40 3 vW fs.length (fs.flatMap Pl.frC) ∧ fs.length ≤ 1000000
theorem BookSt.below {w w' : World} {B kb N : Nat} {vF vC vW : Value} {fs : List (Nat × Nat × ByteArray)} (h : BookSt w B kb N vF vC vW fs) (hb : Below w.heap.size w w') : BookSt w' B kb N vF vC vW fs :=
  ⟨(hb.block kb (lt_of_block h.1)).trans h.1, h.2.1.below hb, ownsRow_below h.2.2.1 hb, ownsRow_below h.2.2.2.1 hb, h.2.2.2.2⟩

/-- One list more, and 'still'. -/
theorem frame_step (w : World) (B kb N S : Nat) (vF vC vW vL : Value) (fs0 fs : List (Nat × Nat × ByteArray)) (h : BookSt w B kb N vF vC vW fs0) (hS : ∀ g, vC.ownBlock = some g → g < S) (hSL : ListsIn w B 31 40 3 mkF vF N (fun g => g < S)) (hV : w.ownsRow S 40 3 vL fs.length (fs.flatMap Pl.frC)) (hBS : B ≤ S) (hfs : fs.length ≤ 1000000) (hN : N % 4 = 0) (hN2 : N ≤ 900) (hB : B ≤ w.heap.size) (hkB : B ≤ kb) :
    Calls Try.prog 13 #[.pointer (some ⟨kb, 0, none⟩), vL] w fun e w' => e = .returned (.tuple #[]) ∧ ∃ vF' vW', BookSt w' B kb (N + 4) vF' vL vW' fs ∧ Below B w w' := by
  obtain ⟨h1, h2, h3, h4, h5⟩ := h
  have hLb : ∀ g, vL.ownBlock = some g → S ≤ g ∧ g < w.heap.size := hV.lt
  refine (bookFrame_any w B kb _ vF _ _ _ _ vC vW _ _ _ _ vL N (fun g => g < S ∧ vC.ownBlock ≠ some g) fs0 fs h1 ?_ (fun g hg => hg.2) h3 h4 hN hN2 h5 hfs hB (own_base hV hBS) (fun g hg ee => by have := hS g ee; have := (hLb g hg).1; omega)).mono ?_
  · obtain ⟨Ls, a1, a2⟩ := h2
    obtain ⟨Ls', b1, b2⟩ := hSL
    obtain rfl := own_unique b1 a1
    exact ⟨_, a1, fun i u hu => by
      obtain ⟨k, r1, r2, r3⟩ := a2 i u hu
      obtain ⟨_, _, _, r4⟩ := b2 i u hu
      exact ⟨k, r1, r2, fun g hg => ⟨r4 g hg, r3 g hg⟩⟩⟩
  · rintro e w' ⟨rfl, vF', vW', p1, p2, p3, p4, p5⟩
    refine ⟨rfl, vF', vW', ⟨p1, p2.weaken (fun g _ hq ee => ?_), p3, p4, hfs⟩, p5.below hkB (lists_base h2) (fun g hg => (h3.lt g hg).1) hB⟩
    have hx := hLb g ee
    rcases hq with r | r | r
    · omega
    · have := hS g r; omega
    · omega
theorem still_step (w : World) (B kb N : Nat) (vF vC vW : Value) (fs : List (Nat × Nat × ByteArray)) (h : BookSt w B kb N vF vC vW fs) (hN2 : N ≤ 900) :
    Calls Try.prog 14 #[.pointer (some ⟨kb, 0, none⟩)] w fun e w' => e = .returned (.bool true) ∧ Below w.heap.size w w' := by
  obtain ⟨h1, h2, h3, h4, h5⟩ := h
  exact still_any w B kb _ vF _ _ vC vW 0 N 0 0 fs h1 (lists_nil w B 30 3 1 mkI (fun _ => True)).lists h2.lists (lists_nil w B 33 75 4 mkA (fun _ => True)).lists (lists_nil w B 32 9 1 mkT (fun _ => True)).lists h3 h4 ⟨by omega, by omega, by omega, by omega⟩ (by omega)

set_option maxRecDepth 100000 in
set_option maxHeartbeats 8000000 in
theorem splits_walk (s t : ByteArray) (w : World) (hs : s.size ≤ 2000000) (ht : t.size ≤ 2000000) :
    Calls Try.prog 4 #[.string s, .string t] w fun e w' => e = .returned (.bool true) ∧ Below w.heap.size w w' := by
  go_enter Try.func4, Try.ntmps4
  go_wp2_with fail
  go_loopw [6] (fun i wr => ∃ (q : Nat) (vF vC vW : Value) (fs : List (Nat × Nat × ByteArray)), q ≤ 4 ∧ i = .int .i64 (q : Nat) ∧ BookSt wr w.heap.size w.heap.size (4 * q) vF vC vW fs ∧ Below w.heap.size w wr) (fun i _ => 4 - (intOf i).toNat)
  case atStart => exact ⟨0, .slice none 0 0, .slice none 0 0, .slice none 0 0, [], by omega, rfl, ⟨heap_alloc_new w _, lists_nil _ _ _ _ _ _ _, World.ownsRow_nil _ _ _ _, World.ownsRow_nil _ _ _ _, by decide⟩, (Below.refl _ _).alloc (Nat.le_refl _) _⟩
  case round =>
    obtain ⟨q, vF, vC, vW, fs, hq4, rfl, hbk, hbw⟩ := hrel
    by_cases hq : q < 4
    · obtain ⟨S, hSS⟩ : ∃ S, S = wr.heap.size := ⟨_, rfl⟩
      have HS : Hid (∀ g, vC.ownBlock = some g → g < S) := fun g hg => by rw [hSS]; exact (hbk.2.2.1.lt g hg).2
      have HSL : Hid (ListsIn wr w.heap.size 31 40 3 mkF vF (4 * q) (fun g => g < S)) := hbk.2.1.weaken (fun g hg _ => by rw [hSS]; exact hg)
      have hBS : w.heap.size ≤ S := by rw [hSS]; exact hbw.size
      have HSS : Hid (S = wr.heap.size) := hSS
      clear hSS
      by_cases hq2 : q = 2
      · have t2 : ((q : Int) == 2) = true := by simp; omega
        clear hq2
        go_wp2_with fail
        refine (split_core t _ (by omega)).mono ?_
        rintro e w1 ⟨v1, n1, acc1, p1, k1, rfl, hown1, hsp1, hn1, hb1⟩
        have hbk1 := hbk.below hb1
        have HSL1 := hideF (HSL.out.below hb1)
        go_wp2_with fail
        refine (refSplit_core t _ (by omega)).mono ?_
        rintro e w2 ⟨v2, n2, acc2, p2, k2, rfl, hown2, hsp2, _, hb2⟩
        obtain ⟨rfl, rfl, rfl⟩ := splIs_eq hsp1 hsp2
        obtain ⟨fs1, rfl⟩ := splIs_frs hsp1
        have hl1 := hown1.1
        have hl2 := hown2.1
        rw [frC_len] at hl1 hl2
        obtain rfl : n1 = fs1.length := by omega
        obtain rfl : n2 = fs1.length := by omega
        have hown1' := ownsRow_below hown1 hb2
        obtain ⟨a1, c1, rfl, vw1⟩ := own_view hown1'
        obtain ⟨a2, c2, rfl, vw2⟩ := own_view hown2
        have hbk2 := hbk1.below hb2
        have HSL2 := hideF (HSL1.out.below hb2)
        have HO1 := hideF hown1'
        have hbw2 : Below w.heap.size w w2 := (hbw.trans (hb1.mono hbw.size)).trans (hb2.mono (by have := hbw.size; have := hb1.size; omega))
        obtain ⟨n, hnn⟩ : ∃ n, n = fs1.length := ⟨_, rfl⟩
        have HNN : Hid (n = fs1.length) := hnn
        rw [← hnn] at vw1 vw2 hn1 HO1
        have HV1 := hideF vw1
        have HV2 := hideF vw2
        have HBK2 := hideF hbk2
        rw [← hnn]
        clear hl1 hl2 hown1 hown1' hown2 hsp1 hsp2 hbk1 hbk2 vw1 vw2 hb1 hb2 hnn
        go_wp2_with fail
        go_loopw [14] (fun i wr => ∃ j : Nat, j ≤ n ∧ i = .int .i64 (j : Nat) ∧ Below w2.heap.size w2 wr) (fun i _ => n - (intOf i).toNat)
        case atStart => exact ⟨0, Nat.zero_le _, rfl, Below.refl _ _⟩
        case round =>
          obtain ⟨j, hj, rfl, hbj⟩ := hrel
          by_cases hjn : j < n
          · obtain ⟨g1, rfl, hg1, hc1⟩ := HV1.out j hjn
            obtain ⟨g2, rfl, hg2, hc2⟩ := HV2.out j hjn
            have hfa := flat_at fs1 j (by rw [← HNN.out]; exact hjn)
            obtain ⟨x, hx⟩ : ∃ x, x = fs1[j]'(by rw [← HNN.out]; exact hjn) := ⟨_, rfl⟩
            rw [← hx] at hfa
            clear hx
            obtain ⟨m, u, b⟩ := x
            simp only at hfa
            have d10 := ((hbj.cell (p := ⟨g1, j * 3, none⟩) hg1).trans (hc1 (j * 3) (by omega))).trans hfa.1
            have d11 := ((hbj.cell (p := ⟨g1, j * 3 + 1, none⟩) hg1).trans (hc1 (j * 3 + 1) (by omega))).trans hfa.2.1
            have d12 := ((hbj.cell (p := ⟨g1, j * 3 + 2, none⟩) hg1).trans (hc1 (j * 3 + 2) (by omega))).trans hfa.2.2
            have d20 := ((hbj.cell (p := ⟨g2, j * 3, none⟩) hg2).trans (hc2 (j * 3) (by omega))).trans hfa.1
            have d21 := ((hbj.cell (p := ⟨g2, j * 3 + 1, none⟩) hg2).trans (hc2 (j * 3 + 1) (by omega))).trans hfa.2.1
            have d22 := ((hbj.cell (p := ⟨g2, j * 3 + 2, none⟩) hg2).trans (hc2 (j * 3 + 2) (by omega))).trans hfa.2.2
            clear hc1 hc2 hfa
            go_wp2_with fail
            go_quiet (fail)
            go_wp2
            go_roundw
            case rel => exact ⟨j + 1, by omega, by go_num, below_drewN hbj _⟩
            case measure => simp [intOf]; omega
          · go_wp2_with fail
            have hsz2 := hbw2.size
            have hszj := hbj.size
            refine (frame_step wr (w.heap.size) (w.heap.size) (4 * q) S vF vC vW (.slice a1 n c1) fs fs1 (HBK2.out.below hbj) HS.out (HSL2.out.below hbj) (by have := ownsRow_below HO1.out hbj; rw [← HNN.out]; exact own_base this (by rw [HSS.out]; exact Nat.le_refl _)) hBS (by rw [← HNN.out]; omega) (by omega) (by omega) (by omega) (Nat.le_refl _)).mono ?_
            rintro e w5 ⟨rfl, vF', vW', hbk5, hb5⟩
            have hbw5 : Below w.heap.size w w5 := (hbw2.trans (hbj.mono hsz2)).trans hb5
            go_wp2_with fail
            refine (still_step w5 _ _ _ vF' _ vW' fs1 hbk5 (by omega)).mono ?_
            rintro e w6 ⟨rfl, hb6⟩
            have hbk6 := hbk5.below hb6
            have hbw6 : Below w.heap.size w w6 := hbw5.trans (hb6.mono hbw5.size)
            have HBK6 := hideF hbk6
            clear hbk5 hbk6 hb6
            go_wp2
            go_roundw
            case rel => exact ⟨q + 1, vF', _, vW', fs1, by omega, by go_num, by rw [show 4 * (q + 1) = 4 * q + 4 by omega]; exact HBK6.out, hbw6⟩
            case measure => simp [intOf]; omega

      · have t2 : ((q : Int) == 2) = false := by simp; omega
        clear hq2
        go_wp2_with fail
        refine (split_core s _ (by omega)).mono ?_
        rintro e w1 ⟨v1, n1, acc1, p1, k1, rfl, hown1, hsp1, hn1, hb1⟩
        have hbk1 := hbk.below hb1
        have HSL1 := hideF (HSL.out.below hb1)
        go_wp2_with fail
        refine (refSplit_core s _ (by omega)).mono ?_
        rintro e w2 ⟨v2, n2, acc2, p2, k2, rfl, hown2, hsp2, _, hb2⟩
        obtain ⟨rfl, rfl, rfl⟩ := splIs_eq hsp1 hsp2
        obtain ⟨fs1, rfl⟩ := splIs_frs hsp1
        have hl1 := hown1.1
        have hl2 := hown2.1
        rw [frC_len] at hl1 hl2
        obtain rfl : n1 = fs1.length := by omega
        obtain rfl : n2 = fs1.length := by omega
        have hown1' := ownsRow_below hown1 hb2
        obtain ⟨a1, c1, rfl, vw1⟩ := own_view hown1'
        obtain ⟨a2, c2, rfl, vw2⟩ := own_view hown2
        have hbk2 := hbk1.below hb2
        have HSL2 := hideF (HSL1.out.below hb2)
        have HO1 := hideF hown1'
        have hbw2 : Below w.heap.size w w2 := (hbw.trans (hb1.mono hbw.size)).trans (hb2.mono (by have := hbw.size; have := hb1.size; omega))
        obtain ⟨n, hnn⟩ : ∃ n, n = fs1.length := ⟨_, rfl⟩
        have HNN : Hid (n = fs1.length) := hnn
        rw [← hnn] at vw1 vw2 hn1 HO1
        have HV1 := hideF vw1
        have HV2 := hideF vw2
        have HBK2 := hideF hbk2
        rw [← hnn]
        clear hl1 hl2 hown1 hown1' hown2 hsp1 hsp2 hbk1 hbk2 vw1 vw2 hb1 hb2 hnn
        go_wp2_with fail
        go_loopw [14] (fun i wr => ∃ j : Nat, j ≤ n ∧ i = .int .i64 (j : Nat) ∧ Below w2.heap.size w2 wr) (fun i _ => n - (intOf i).toNat)
        case atStart => exact ⟨0, Nat.zero_le _, rfl, Below.refl _ _⟩
        case round =>
          obtain ⟨j, hj, rfl, hbj⟩ := hrel
          by_cases hjn : j < n
          · obtain ⟨g1, rfl, hg1, hc1⟩ := HV1.out j hjn
            obtain ⟨g2, rfl, hg2, hc2⟩ := HV2.out j hjn
            have hfa := flat_at fs1 j (by rw [← HNN.out]; exact hjn)
            obtain ⟨x, hx⟩ : ∃ x, x = fs1[j]'(by rw [← HNN.out]; exact hjn) := ⟨_, rfl⟩
            rw [← hx] at hfa
            clear hx
            obtain ⟨m, u, b⟩ := x
            simp only at hfa
            have d10 := ((hbj.cell (p := ⟨g1, j * 3, none⟩) hg1).trans (hc1 (j * 3) (by omega))).trans hfa.1
            have d11 := ((hbj.cell (p := ⟨g1, j * 3 + 1, none⟩) hg1).trans (hc1 (j * 3 + 1) (by omega))).trans hfa.2.1
            have d12 := ((hbj.cell (p := ⟨g1, j * 3 + 2, none⟩) hg1).trans (hc1 (j * 3 + 2) (by omega))).trans hfa.2.2
            have d20 := ((hbj.cell (p := ⟨g2, j * 3, none⟩) hg2).trans (hc2 (j * 3) (by omega))).trans hfa.1
            have d21 := ((hbj.cell (p := ⟨g2, j * 3 + 1, none⟩) hg2).trans (hc2 (j * 3 + 1) (by omega))).trans hfa.2.1
            have d22 := ((hbj.cell (p := ⟨g2, j * 3 + 2, none⟩) hg2).trans (hc2 (j * 3 + 2) (by omega))).trans hfa.2.2
            clear hc1 hc2 hfa
            go_wp2_with fail
            go_quiet (fail)
            go_wp2
            go_roundw
            case rel => exact ⟨j + 1, by omega, by go_num, below_drewN hbj _⟩
            case measure => simp [intOf]; omega
          · go_wp2_with fail
            have hsz2 := hbw2.size
            have hszj := hbj.size
            refine (frame_step wr (w.heap.size) (w.heap.size) (4 * q) S vF vC vW (.slice a1 n c1) fs fs1 (HBK2.out.below hbj) HS.out (HSL2.out.below hbj) (by have := ownsRow_below HO1.out hbj; rw [← HNN.out]; exact own_base this (by rw [HSS.out]; exact Nat.le_refl _)) hBS (by rw [← HNN.out]; omega) (by omega) (by omega) (by omega) (Nat.le_refl _)).mono ?_
            rintro e w5 ⟨rfl, vF', vW', hbk5, hb5⟩
            have hbw5 : Below w.heap.size w w5 := (hbw2.trans (hbj.mono hsz2)).trans hb5
            go_wp2_with fail
            refine (still_step w5 _ _ _ vF' _ vW' fs1 hbk5 (by omega)).mono ?_
            rintro e w6 ⟨rfl, hb6⟩
            have hbk6 := hbk5.below hb6
            have hbw6 : Below w.heap.size w w6 := hbw5.trans (hb6.mono hbw5.size)
            have HBK6 := hideF hbk6
            clear hbk5 hbk6 hb6
            go_wp2
            go_roundw
            case rel => exact ⟨q + 1, vF', _, vW', fs1, by omega, by go_num, by rw [show 4 * (q + 1) = 4 * q + 4 by omega]; exact HBK6.out, hbw6⟩
            case measure => simp [intOf]; omega

    · have hqe : 4 * q = 16 := by omega
      rw [hqe] at hbk
      clear hqe
      go_wp2_with fail
      refine (serial_any s _ (by omega)).mono ?_
      rintro e w1 ⟨u1, b1, k1, rfl, hse1, hb1⟩
      go_wp2_with fail
      obtain ⟨X1, hX1⟩ : ∃ X1, X1 = w1.alloc (.cells #[.int .i64 0, .int .i64 (u1 : Nat), .string b1] 40) := ⟨_, rfl⟩
      rw [← hX1]
      obtain ⟨g1, hg1⟩ : ∃ g1, g1 = w1.heap.size := ⟨_, rfl⟩
      have z1 : g1 < X1.heap.size := by rw [hX1, hg1]; simp
      have x0 : X1.cell? ⟨g1, 0, none⟩ = some (.int .i64 0) := by rw [hX1, hg1]; simp
      have x1 : X1.cell? ⟨g1, 1, none⟩ = some (.int .i64 (u1 : Nat)) := by rw [hX1, hg1]; simp
      have x2 : X1.cell? ⟨g1, 2, none⟩ = some (.string b1) := by rw [hX1, hg1]; simp
      have hbX1 : Below wr.heap.size wr X1 := by rw [hX1]; exact hb1.alloc hb1.size _
      rw [← hg1]
      clear hX1 hg1 hb1
      refine (refSerial_any s _ (by omega)).mono ?_
      rintro e w2 ⟨u2, b2, k2, rfl, hse2, hb2⟩
      obtain ⟨rfl, rfl, rfl⟩ := hse1.eq hse2
      have y0 := (hb2.cell (p := ⟨g1, 0, none⟩) z1).trans x0
      have y1 := (hb2.cell (p := ⟨g1, 1, none⟩) z1).trans x1
      have y2 := (hb2.cell (p := ⟨g1, 2, none⟩) z1).trans x2
      have z2 : g1 < w2.heap.size := Nat.lt_of_lt_of_le z1 hb2.size
      have hbw2 : Below wr.heap.size wr w2 := bel_then hbX1 hb2
      clear x0 x1 x2 hb2 hbX1 hse1 hse2 z1
      go_wp2_with fail
      obtain ⟨X2, hX2⟩ : ∃ X2, X2 = w2.alloc (.cells #[.int .i64 0, .int .i64 (u1 : Nat), .string b1] 40) := ⟨_, rfl⟩
      rw [← hX2]
      obtain ⟨g2, hg2⟩ : ∃ g2, g2 = w2.heap.size := ⟨_, rfl⟩
      have z3 : g2 < X2.heap.size := by rw [hX2, hg2]; simp
      have z4 : g1 < X2.heap.size := by rw [hX2]; simp; omega
      have p0 : X2.cell? ⟨g1, 0, none⟩ = some (.int .i64 0) := (by rw [hX2]; exact (Below.refl w2.heap.size w2).alloc (Nat.le_refl _) _ |>.cell (p := ⟨g1, 0, none⟩) z2 |>.trans y0)
      have p1 : X2.cell? ⟨g1, 1, none⟩ = some (.int .i64 (u1 : Nat)) := (by rw [hX2]; exact (Below.refl w2.heap.size w2).alloc (Nat.le_refl _) _ |>.cell (p := ⟨g1, 1, none⟩) z2 |>.trans y1)
      have p2 : X2.cell? ⟨g1, 2, none⟩ = some (.string b1) := (by rw [hX2]; exact (Below.refl w2.heap.size w2).alloc (Nat.le_refl _) _ |>.cell (p := ⟨g1, 2, none⟩) z2 |>.trans y2)
      have r0 : X2.cell? ⟨g2, 0, none⟩ = some (.int .i64 0) := by rw [hX2, hg2]; simp
      have r1 : X2.cell? ⟨g2, 1, none⟩ = some (.int .i64 (u1 : Nat)) := by rw [hX2, hg2]; simp
      have r2 : X2.cell? ⟨g2, 2, none⟩ = some (.string b1) := by rw [hX2, hg2]; simp
      have hbX2 : Below wr.heap.size wr X2 := by rw [hX2]; exact bel_alloc hbw2 _
      rw [← hg2]
      clear hX2 hg2 y0 y1 y2 hbw2 z2
      refine (refCheck_any t _ (by unfold maxLen; omega)).mono ?_
      rintro e w3 ⟨rfl, rfl⟩
      obtain ⟨C, hC⟩ : ∃ C, C = Pl.crc t.data.toList := ⟨_, rfl⟩
      have hC1 : C < 65536 := by rw [hC]; exact Pl.crc_lt _
      rw [← hC]
      clear hC
      have c2 : ∀ (W : World) (g : Nat), W.cell? ⟨g, 0, none⟩ = some (.int .u8 ((C : Int) % 256)) → W.cell? ⟨g, 1, none⟩ = some (.int .u8 ((C : Int) / 256)) → (convert 45 9 (.slice (some ⟨g, 0, none⟩) 2 2)).run Try.prog W = .ok (.string (tailB C)) W := fun W g hc hd => conv2_at W g _ _ hc hd
      have zt : (tailB C).size = 2 := rfl
      have hlim : ¬ 9223372036854775807 < t.size + 2 := by omega
      go_wp2_with fail
      obtain ⟨U, hU⟩ : ∃ U, U = t ++ tailB C := ⟨_, rfl⟩
      rw [← hU]
      have hUs : U.size ≤ 4194304 := by rw [hU, ByteArray.size_append, zt]; omega
      clear hU zt c2 hlim hC1
      obtain ⟨X3, hX3⟩ : ∃ X3, X3 = w3.alloc (.cells #[.int .u8 ((C : Int) % 256), .int .u8 ((C : Int) / 256)] 5) := ⟨_, rfl⟩
      rw [← hX3]
      have hb3 : Below w3.heap.size w3 X3 := by rw [hX3]; exact (Below.refl _ _).alloc (Nat.le_refl _) _
      clear hX3
      refine (serial_any U _ hUs).mono ?_
      rintro e w4 ⟨u3, b3, k3, rfl, hse3, hb4⟩
      have hb34 : Below w3.heap.size w3 w4 := bel_then hb3 hb4
      go_wp2_with fail
      obtain ⟨X4, hX4⟩ : ∃ X4, X4 = w4.alloc (.cells #[.int .i64 0, .int .i64 (u3 : Nat), .string b3] 40) := ⟨_, rfl⟩
      rw [← hX4]
      obtain ⟨g3, hg3⟩ : ∃ g3, g3 = w4.heap.size := ⟨_, rfl⟩
      have z5 : g3 < X4.heap.size := by rw [hX4, hg3]; simp
      have q0 : X4.cell? ⟨g3, 0, none⟩ = some (.int .i64 0) := by rw [hX4, hg3]; simp
      have q1 : X4.cell? ⟨g3, 1, none⟩ = some (.int .i64 (u3 : Nat)) := by rw [hX4, hg3]; simp
      have q2 : X4.cell? ⟨g3, 2, none⟩ = some (.string b3) := by rw [hX4, hg3]; simp
      have hb3X : Below w3.heap.size w3 X4 := by rw [hX4]; exact bel_alloc hb34 _
      rw [← hg3]
      clear hX4 hg3 hb34 hb3 hb4
      refine (refSerial_any U _ hUs).mono ?_
      rintro e w5 ⟨u4, b4, k4, rfl, hse4, hb5⟩
      obtain ⟨rfl, rfl, rfl⟩ := hse3.eq hse4
      have hb35 : Below w3.heap.size w3 w5 := bel_then hb3X hb5
      have zz1 : g1 < w5.heap.size := Nat.lt_of_lt_of_le z4 hb35.size
      have zz2 : g2 < w5.heap.size := Nat.lt_of_lt_of_le z3 hb35.size
      have zz3 : g3 < w5.heap.size := Nat.lt_of_lt_of_le z5 hb5.size
      have s0 := (hb35.cell (p := ⟨g1, 0, none⟩) z4).trans p0
      have s1 := (hb35.cell (p := ⟨g1, 1, none⟩) z4).trans p1
      have s2 := (hb35.cell (p := ⟨g1, 2, none⟩) z4).trans p2
      have t0 := (hb35.cell (p := ⟨g2, 0, none⟩) z3).trans r0
      have t1 := (hb35.cell (p := ⟨g2, 1, none⟩) z3).trans r1
      have t2 := (hb35.cell (p := ⟨g2, 2, none⟩) z3).trans r2
      have v0 := (hb5.cell (p := ⟨g3, 0, none⟩) z5).trans q0
      have v1 := (hb5.cell (p := ⟨g3, 1, none⟩) z5).trans q1
      have v2 := (hb5.cell (p := ⟨g3, 2, none⟩) z5).trans q2
      have hbr5 : Below wr.heap.size wr w5 := bel_then hbX2 hb35
      have HBK := hideF hbk
      have HBW := hideF hbw
      clear p0 p1 p2 r0 r1 r2 q0 q1 q2 hb35 hb3X hb5 hbX2 hse3 hse4 hbk hbw z3 z4 z5
      go_wp2_with fail
      obtain ⟨X5, hX5⟩ : ∃ X5, X5 = w5.alloc (.cells #[.int .i64 0, .int .i64 (u3 : Nat), .string b3] 40) := ⟨_, rfl⟩
      rw [← hX5]
      have hbr6 : Below wr.heap.size wr X5 := by rw [hX5]; exact bel_alloc hbr5 _
      have hbw6 : Below w.heap.size w X5 := HBW.out.trans (hbr6.mono HBW.out.size)
      obtain ⟨e1, e2, e3, e4, e5⟩ := HBK.out.below hbr6
      refine (bookEnds_any X5 w.heap.size w.heap.size vF vC vW 16 _ fs e1 e2 (fun g hg => hg) e3 e4 (by decide) (by decide) e5 hbw6.size (Nat.le_refl _)).mono ?_
      rintro e w7 ⟨rfl, hb7⟩
      clear e1 e2 e3 e4 e5 hX5
      go_wp2
      go_ret
      exact ⟨rfl, hbw6.trans hb7⟩
end Go.Proofs.Ytcpldcojckhapaa
