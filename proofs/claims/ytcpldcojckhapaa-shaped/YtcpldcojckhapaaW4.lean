/-
  Package pdu: the requests that write several entries, that mask and that exchange: what they answer.
-/
import Derived.Test.YtcpldcojckhapaaW3
namespace Go.Proofs.Ytcpldcojckhapaa
open Go.RowKit

set_option maxHeartbeats 400000 in
theorem bitsSize_any (n : Nat) (w : World) (h : n ≤ 100000) :
    Calls Try.prog 67 #[.int .i64 (n : Nat)] w fun e w' => ∃ b : Nat, e = .returned (.int .i64 (b : Nat)) ∧ b = (n + 7) / 8 ∧ w' = w := by
  go_enter Try.func67, Try.ntmps67
  go_wp2
  go_ret
  exact ⟨(n + 7) / 8, rint (by first | omega | (rw [Int.tdiv_eq_ediv_of_nonneg (by omega)]; omega)), rfl, rfl⟩

set_option maxRecDepth 100000 in
set_option maxHeartbeats 2000000 in
theorem settingCoils_any (s : ByteArray) (w : World) (hs : s.size ≤ 100000) :
    Calls Try.prog 47 #[.string s] w fun e w' => PartIs w w' e (4 < s.size ∧ (1 ≤ Pl.wd s 2 ∧ Pl.wd s 2 ≤ 1968) ∧ s.size - 5 = Pl.byt s 4 ∧ s.size - 5 = (Pl.wd s 2 + 7) / 8) ⟨0, 0, 0, 0, 0, Pl.wd s 0, Pl.wd s 2, Pl.bitsL s 5 (Pl.wd s 2)⟩ := by
  go_enter Try.func47, Try.ntmps47
  go_wp2_with fail
  refine (sized_any s 1968 _ (by omega) (by omega)).mono ?_
  rintro e w1 ⟨r, hw, n1, rfl⟩
  rcases hw with ⟨hlen, rfl, rfl⟩ | ⟨hlen, rfl, hr0⟩
  ·
    go_wp2
    refine bodyPost_ret (v := .tuple #[.agg #[.int .i64 0, .int .i64 0, .int .i64 0, .int .i64 0, .int .i64 0, .int .i64 0, .int .i64 0, .slice none 0 0], .bool false]) (by simp [results, Try.results47, go_sem]) rfl
      ⟨Pl.noShp, .slice none 0 0, false, rfl, World.ownsRow_nil _ _ _ _, by simp; omega, by simp, by simp [Pl.noShp], bel8 (below_drewN (bel_alloc (Below.refl _ _) _) _) (Nat.le_refl _) _ _ _ _ _ _ _ _⟩
  · have hr := hideF hr0
    clear hr0
    have hwl := Pl.wd_lt s 2
    have hsz : (s.extract 5 s.size).size = s.size - 5 := by simp
    obtain ⟨D, hD⟩ : ∃ D, D = s.extract 5 s.size := ⟨_, rfl⟩
    rw [← hD] at hsz ⊢
    have HD := hideF hD
    clear hD
    have HSZ := hideF hsz
    obtain ⟨K, hK⟩ : ∃ K, K = Pl.wd s 2 := ⟨_, rfl⟩
    rw [← hK] at hwl ⊢
    have HK := hideF hK
    clear hK
    have hDl : D.size ≤ 100000 := by omega
    clear hsz
    cases r with
    | false =>
      go_wp2
      refine bodyPost_ret (v := .tuple #[.agg #[.int .i64 0, .int .i64 0, .int .i64 0, .int .i64 0, .int .i64 0, .int .i64 0, .int .i64 0, .slice none 0 0], .bool false]) (by simp [results, Try.results47, go_sem]) rfl
        ⟨Pl.noShp, .slice none 0 0, false, rfl, World.ownsRow_nil _ _ _ _, ?_, by simp, by simp [Pl.noShp], bel8 (below_drewN (bel_alloc (Below.refl _ _) _) _) (Nat.le_refl _) _ _ _ _ _ _ _ _⟩
      have := hr.out
      simp at this ⊢
      intro _ h1 h2 h3
      omega
    | true =>
      have hk := hr.out.1 rfl
      have HK0 := hideF hk
      clear hk
      go_wp2_with fail
      refine (bitsSize_any K _ (by omega)).mono ?_
      rintro e w1' ⟨b, rfl, hb0, rfl⟩
      have HBB := hideF hb0
      have hbl : b ≤ 100000 := by omega
      clear hb0
      have hk := HK0.out
      clear HK0
      by_cases hd : D.size = b
      · have td : ((D.size : Int) != (b : Int)) = false := by simp; omega
        have hd' := HBB.out
        rw [← HK.out] at hk
        have hdk : D.size = (K + 7) / 8 := by omega
        have HDK := hideF hdk
        clear hd' hdk
        have hk1 := hk.1
        have hk2 := hideF hk.2
        clear hk
        obtain ⟨X, hX⟩ : ∃ X, X = (w.alloc (.cells #[.int .i64 0, .int .i64 0, .int .i64 0, .int .i64 0, .int .i64 0, .int .i64 0, .int .i64 0, .slice none 0 0] 48)).drewN n1 := ⟨_, rfl⟩
        have hXb : Below w.heap.size w X := by rw [hX]; exact below_drewN (bel_alloc (Below.refl _ _) _) _
        have hXs : X.heap.size = w.heap.size + 1 := by rw [hX]; simp
        have hXg : X.heap[w.heap.size]? = some (.cells #[.int .i64 0, .int .i64 0, .int .i64 0, .int .i64 0, .int .i64 0, .int .i64 0, .int .i64 0, .slice none 0 0] 48 (0, 0)) := by rw [hX]; exact heap_alloc_new w _
        rw [← hX]
        clear hX
        go_wp2_with fail
        refine (pbits_any D K X (by have := HDK.out; omega) (by omega)).mono ?_
        rintro e w2 ⟨v, rfl, hown, hb2⟩
        rw [hXs] at hown
        have hl := hown.1
        obtain ⟨ad, c, rfl, _⟩ := own_view hown
        go_wp2_with fail
        refine (setting_any 0 (Pl.wd s 0) K ad c w2 (by omega)).mono ?_
        rintro e w3 ⟨rfl, hb3⟩
        have hYg := (hb3.block w.heap.size (by have := hb2.size; omega)).trans ((hb2.block w.heap.size (by omega)).trans hXg)
        have hbw : Below w.heap.size w w3 := bel_then (bel_then hXb hb2) hb3
        have how := ownsRow_below hown hb3
        obtain ⟨hz, c0, c1, c2, c3, c4, c5, c6, c7⟩ := cells8 hYg
        clear hb3 hb2 hown hXb hXg hYg
        go_wp2
        refine bodyPost_ret (v := .tuple #[.agg #[.int .i64 0, .int .i64 0, .int .i64 0, .int .i64 0, .int .i64 0, .int .i64 (Pl.wd s 0 : Nat), .int .i64 (K : Nat), .slice ad K c], .bool true]) (by simp [results, Try.results47, go_sem, c0, c1, c2, c3, c4, c5, c6, c7]) rfl
          ⟨⟨0, 0, 0, 0, 0, Pl.wd s 0, K, Pl.bitsL D 0 K⟩, _, true, rfl, by rw [Pl.bitsL_len]; exact own8 how (Nat.le_refl _) _ _ _ _ _ _ _ _, ?_, ?_, by rw [Pl.bitsL_len]; omega, bel8 hbw (Nat.le_refl _) _ _ _ _ _ _ _ _⟩
        · have h1 := hk2.out
          have h2 := HSZ.out
          have h3 := HK.out
          have h4 := HDK.out
          simp only [true_iff]
          refine ⟨hlen, ?_, ?_, ?_⟩ <;> omega
        · intro _
          rw [HD.out, Pl.bitsL_suffix, HK.out]
      · have td : ((D.size : Int) != (b : Int)) = true := by simp; omega
        clear hk
        go_wp2
        refine bodyPost_ret (v := .tuple #[.agg #[.int .i64 0, .int .i64 0, .int .i64 0, .int .i64 0, .int .i64 0, .int .i64 0, .int .i64 0, .slice none 0 0], .bool false]) (by simp [results, Try.results47, go_sem]) rfl
          ⟨Pl.noShp, .slice none 0 0, false, rfl, World.ownsRow_nil _ _ _ _, ?_, by simp, by simp [Pl.noShp], bel8 (below_drewN (bel_alloc (Below.refl _ _) _) _) (Nat.le_refl _) _ _ _ _ _ _ _ _⟩
        have h2 := HSZ.out
        have h3 := HK.out
        have h8 := HBB.out
        simp
        intro _ h4 h5 h6 h7
        omega

set_option maxRecDepth 100000 in
set_option maxHeartbeats 2000000 in
theorem settingHolders_any (m : Nat) (s : ByteArray) (w : World) (hs : s.size ≤ 100000) (hm : m ≤ 2000) :
    Calls Try.prog 48 #[.int .i64 (m : Nat), .string s] w fun e w' => PartIs w w' e (4 < s.size ∧ (1 ≤ Pl.wd s 2 ∧ Pl.wd s 2 ≤ m) ∧ s.size - 5 = Pl.byt s 4 ∧ s.size - 5 = 2 * Pl.wd s 2) ⟨0, 0, 0, 0, 2, Pl.wd s 0, Pl.wd s 2, Pl.wordsL s 5 (Pl.wd s 2)⟩ := by
  go_enter Try.func48, Try.ntmps48
  go_wp2_with fail
  refine (sized_any s m _ (by omega) (by omega)).mono ?_
  rintro e w1 ⟨r, hw, n1, rfl⟩
  rcases hw with ⟨hlen, rfl, rfl⟩ | ⟨hlen, rfl, hr0⟩
  ·
    go_wp2
    refine bodyPost_ret (v := .tuple #[.agg #[.int .i64 0, .int .i64 0, .int .i64 0, .int .i64 0, .int .i64 0, .int .i64 0, .int .i64 0, .slice none 0 0], .bool false]) (by simp [results, Try.results48, go_sem]) rfl
      ⟨Pl.noShp, .slice none 0 0, false, rfl, World.ownsRow_nil _ _ _ _, by simp; omega, by simp, by simp [Pl.noShp], bel8 (below_drewN (bel_alloc (Below.refl _ _) _) _) (Nat.le_refl _) _ _ _ _ _ _ _ _⟩
  · have hr := hideF hr0
    clear hr0
    have hwl := Pl.wd_lt s 2
    have hsz : (s.extract 5 s.size).size = s.size - 5 := by simp
    obtain ⟨D, hD⟩ : ∃ D, D = s.extract 5 s.size := ⟨_, rfl⟩
    rw [← hD] at hsz ⊢
    have HD := hideF hD
    clear hD
    have HSZ := hideF hsz
    obtain ⟨K, hK⟩ : ∃ K, K = Pl.wd s 2 := ⟨_, rfl⟩
    rw [← hK] at hwl ⊢
    have HK := hideF hK
    clear hK
    have hDl : D.size ≤ 100000 := by omega
    clear hsz
    cases r with
    | false =>
      go_wp2
      refine bodyPost_ret (v := .tuple #[.agg #[.int .i64 0, .int .i64 0, .int .i64 0, .int .i64 0, .int .i64 0, .int .i64 0, .int .i64 0, .slice none 0 0], .bool false]) (by simp [results, Try.results48, go_sem]) rfl
        ⟨Pl.noShp, .slice none 0 0, false, rfl, World.ownsRow_nil _ _ _ _, ?_, by simp, by simp [Pl.noShp], bel8 (below_drewN (bel_alloc (Below.refl _ _) _) _) (Nat.le_refl _) _ _ _ _ _ _ _ _⟩
      have := hr.out
      simp at this ⊢
      intro _ h1 h2 h3
      omega
    | true =>
      have hk := hr.out.1 rfl
      by_cases hd : D.size = 2 * K
      · have td : ((D.size : Int) != 2 * (K : Int)) = false := by simp; omega
        rw [← HK.out] at hk
        have hk1 := hk.1
        have hk2 := hideF hk.2
        clear hk
        obtain ⟨X, hX⟩ : ∃ X, X = (w.alloc (.cells #[.int .i64 0, .int .i64 0, .int .i64 0, .int .i64 0, .int .i64 0, .int .i64 0, .int .i64 0, .slice none 0 0] 48)).drewN n1 := ⟨_, rfl⟩
        have hXb : Below w.heap.size w X := by rw [hX]; exact below_drewN (bel_alloc (Below.refl _ _) _) _
        have hXs : X.heap.size = w.heap.size + 1 := by rw [hX]; simp
        have hXg : X.heap[w.heap.size]? = some (.cells #[.int .i64 0, .int .i64 0, .int .i64 0, .int .i64 0, .int .i64 0, .int .i64 0, .int .i64 0, .slice none 0 0] 48 (0, 0)) := by rw [hX]; exact heap_alloc_new w _
        rw [← hX]
        clear hX
        go_wp2_with fail
        refine (pwords_any D K X (by omega) (by omega)).mono ?_
        rintro e w2 ⟨v, rfl, hown, hb2⟩
        rw [hXs] at hown
        have hl := hown.1
        obtain ⟨ad, c, rfl, _⟩ := own_view hown
        go_wp2_with fail
        refine (setting_any 2 (Pl.wd s 0) K ad c w2 (by omega)).mono ?_
        rintro e w3 ⟨rfl, hb3⟩
        have hYg := (hb3.block w.heap.size (by have := hb2.size; omega)).trans ((hb2.block w.heap.size (by omega)).trans hXg)
        have hbw : Below w.heap.size w w3 := bel_then (bel_then hXb hb2) hb3
        have how := ownsRow_below hown hb3
        obtain ⟨hz, c0, c1, c2, c3, c4, c5, c6, c7⟩ := cells8 hYg
        clear hb3 hb2 hown hXb hXg hYg
        go_wp2
        refine bodyPost_ret (v := .tuple #[.agg #[.int .i64 0, .int .i64 0, .int .i64 0, .int .i64 0, .int .i64 2, .int .i64 (Pl.wd s 0 : Nat), .int .i64 (K : Nat), .slice ad K c], .bool true]) (by simp [results, Try.results48, go_sem, c0, c1, c2, c3, c4, c5, c6, c7]) rfl
          ⟨⟨0, 0, 0, 0, 2, Pl.wd s 0, K, Pl.wordsL D 0 K⟩, _, true, rfl, by rw [Pl.wordsL_len]; exact own8 how (Nat.le_refl _) _ _ _ _ _ _ _ _, ?_, ?_, by rw [Pl.wordsL_len]; omega, bel8 hbw (Nat.le_refl _) _ _ _ _ _ _ _ _⟩
        · have h1 := hk2.out
          have h2 := HSZ.out
          have h3 := HK.out
          simp only [true_iff]
          refine ⟨hlen, ?_, ?_, ?_⟩ <;> omega
        · intro _
          rw [HD.out, Pl.wordsL_suffix, HK.out]
      · have td : ((D.size : Int) != 2 * (K : Int)) = true := by simp; omega
        clear hk
        go_wp2
        refine bodyPost_ret (v := .tuple #[.agg #[.int .i64 0, .int .i64 0, .int .i64 0, .int .i64 0, .int .i64 0, .int .i64 0, .int .i64 0, .slice none 0 0], .bool false]) (by simp [results, Try.results48, go_sem]) rfl
          ⟨Pl.noShp, .slice none 0 0, false, rfl, World.ownsRow_nil _ _ _ _, ?_, by simp, by simp [Pl.noShp], bel8 (below_drewN (bel_alloc (Below.refl _ _) _) _) (Nat.le_refl _) _ _ _ _ _ _ _ _⟩
        have h2 := HSZ.out
        have h3 := HK.out
        simp
        intro _ h4 h5 h6 h7
        omega

end Go.Proofs.Ytcpldcojckhapaa
