/-
  The walk of the law Framed.
-/
import Derived.Test.YtcpldcojckhapaaFrdL
set_option maxRecDepth 100000
namespace Go.Proofs.Ytcpldcojckhapaa
open Go.RowKit

set_option maxRecDepth 100000 in
set_option maxHeartbeats 4000000 in
theorem framed_walk (a : Option Addr) (len cap : Nat) (L : List (Int × Int × ByteArray)) (cut turn by' : Int) (w : World) (hL : L.length = len) (hS : IsSent w a L) (hlen : len ≤ 524288) (hcut : -9223372036854775808 ≤ cut ∧ cut ≤ 9223372036854775807) (hturn : -9223372036854775808 ≤ turn ∧ turn ≤ 9223372036854775807) (hby : -9223372036854775808 ≤ by' ∧ by' ≤ 9223372036854775807)
    (hsum : ((L.map toF).flatMap Pl.encL).length ≤ 4000000) :
    Calls Try.prog 6 #[.slice a len cap, .int .i64 cut, .int .i64 turn, .int .i64 by'] w fun e w' => e = .returned (.bool true) ∧ Below w.heap.size w w' := by
  obtain ⟨i0, hi, hz0, hz1, hz2⟩ := info_parts Try.info40
  have HL : Hid (L.length = len) := hL
  clear hL
  go_enter Try.func6, Try.ntmps6
  go_wp2_with fail
  go_loopw [9, 10, 11] (fun v u i wr => ∃ (k : Nat) (A : ByteArray), k ≤ len ∧ i = .int .i64 (k : Nat) ∧ v = .string A ∧ Hid (A.data.toList = ((L.map toF).take k).flatMap Pl.encL) ∧ A.size ≤ 4000000 ∧ wr.ownsRow w.heap.size 40 3 u k (((L.map toF).take k).flatMap Pl.frC) ∧ Below w.heap.size w wr)
    (fun _ _ i _ => len - (intOf i).toNat)
  case atStart => exact ⟨0, ⟨#[]⟩, Nat.zero_le _, rfl, rfl, rfl, by decide, World.ownsRow_nil _ _ _ _, Below.refl _ _⟩
  case round =>
    obtain ⟨k, A, hk, rfl, rfl, HA, hA, hown, hbel⟩ := hrel
    by_cases hlt : k < len
    · obtain ⟨x, hx⟩ : ∃ x, L[k]? = some x := ⟨L[k]'(by rw [HL.out]; exact hlt), List.getElem?_eq_getElem _⟩
      obtain ⟨b, off, rfl, hb, c0, c1, c2, hok⟩ := hS k x hx
      have d0 := (hbel.cell (p := ⟨b, off + k * 3, none⟩) hb).trans c0
      have d1 := (hbel.cell (p := ⟨b, off + k * 3 + 1, none⟩) hb).trans c1
      have d2 := (hbel.cell (p := ⟨b, off + k * 3 + 2, none⟩) hb).trans c2
      have HX : Hid (L[k]? = some x) := hx
      have HS : Hid (IsSent w (some ⟨b, off, none⟩) L) := hS
      have hsz := hbel.size
      clear c0 c1 c2 hx hS
      go_wp2_with fail
      refine (sent_F x _ hok).mono ?_
      rintro e w1 ⟨m, u, B, rfl, HF, hm, hu, hB1, hB2, hb1⟩
      have hnext := take_next L k x HX.out
      rw [HF.out] at hnext
      have hown1 : w1.ownsRow w.heap.size 40 3 u10 k (((L.map toF).take k).flatMap Pl.frC) := ownsRow_below hown hb1
      have hbel1 : Below w.heap.size w w1 := hbel.trans (hb1.mono hbel.size)
      have hsz1 := hbel1.size
      have HN1 : Hid (((L.map toF).take (k + 1)).flatMap Pl.encL = ((L.map toF).take k).flatMap Pl.encL ++ Pl.encL (m, u, B)) := hnext.1
      have HN2 : Hid (((L.map toF).take (k + 1)).flatMap Pl.frC = ((L.map toF).take k).flatMap Pl.frC ++ [.int .i64 (m : Nat), .int .i64 (u : Nat), .string B]) := hnext.2
      have hAB : A.size + (7 + B.size) ≤ 4000000 := by
        have h1 := take_le (L.map toF) (k + 1)
        rw [HN1.out, List.length_append, ← HA.out, ← Pl.size_list] at h1
        have h2 : (Pl.encL (m, u, B)).length = 7 + B.size := by show (streamB m u B).data.toList.length = _; rw [← Pl.size_list, Pl.streamB_size]
        omega
      clear hnext hown hbel hb1 d0 d1 d2 hok
      go_wp2_with (at_builtin; refine wpList_append_own _ rfl (.tmp 39) (.tmp 41) 31 rfl w.heap.size 40 i0 (.agg #[.int .i64 0, .int .i64 0, .string ⟨#[]⟩]) 3 32 Try.underlying31 hi hz0 hz1 hz2 rfl (by decide) u10 k _ rfl ((hown1.alloc _).alloc _) ⟨w1.heap.size + 1, 0, none⟩ 1 1 [.int .i64 (m : Nat), .int .i64 (u : Nat), .string B] rfl rfl (cell_three_new' _ _ _ _ _ _ (by simp)) (by intro u hu; simp at hu; rcases hu with rfl | rfl | rfl <;> rfl) (by unfold maxLen; omega) (by omega) (by simp; omega) ?_; intro v' w3 hown3 hgrow3 _; have f0 : w3.cell? ⟨w1.heap.size, 0, none⟩ = some (.int .i64 (m : Nat)) := hgrow3.cell (by simp) (own_ne hown1); have f1 : w3.cell? ⟨w1.heap.size, 1, none⟩ = some (.int .i64 (u : Nat)) := hgrow3.cell (by simp) (own_ne hown1); have f2 : w3.cell? ⟨w1.heap.size, 2, none⟩ = some (.string B) := hgrow3.cell (by simp) (own_ne hown1))
      have hbel3 : Below w.heap.size w w3 := ((hbel1.alloc hsz1 _).alloc (by simp; omega) _).grown hgrow3 (by simp; omega) (fun q hq => (hown1.lt q hq).1)
      clear f0 f1 f2 hgrow3 hown1 hbel1
      refine (stream_any m u B _ hm hu hB2).mono ?_
      rintro e w4 ⟨rfl, hb4⟩
      obtain ⟨S, hSS⟩ : ∃ S, S = streamB m u B := ⟨_, rfl⟩
      rw [← hSS]
      have hSz : S.size = 7 + B.size := by rw [hSS, Pl.streamB_size]
      have HS2 : Hid (S = streamB m u B) := hSS
      have hown4 := ownsRow_below hown3 hb4
      have hbel4 : Below w.heap.size w w4 := hbel3.trans (hb4.mono hbel3.size)
      have hlim : ¬ 9223372036854775807 < A.size + S.size := by omega
      clear hSS hSz hown3 hbel3 hb4
      go_wp2
      go_roundw
      case rel =>
        have hz : S.size = 7 + B.size := by rw [HS2.out, Pl.streamB_size]
        refine ⟨k + 1, A ++ S, by omega, by go_num, rfl, ?_, ?_, ?_, hbel4⟩
        · show _ = _
          rw [HN1.out, Pl.data_append, HA.out, HS2.out]; rfl
        · rw [ByteArray.size_append]; omega
        · rw [HN2.out]; exact hown4
      case measure => simp [intOf]; omega
    · have HK : Hid (k = len) := by show _ = _; omega
      have HA2 : Hid (A.data.toList = (L.map toF).flatMap Pl.encL) := by
        have := HA.out; rw [HK.out, List.take_of_length_le (by rw [List.length_map, HL.out]; exact Nat.le_refl _)] at this; exact this
      have hown2 : wr.ownsRow w.heap.size 40 3 u10 len ((L.map toF).flatMap Pl.frC) := by
        have := hown; rw [HK.out, List.take_of_length_le (by rw [List.length_map, HL.out]; exact Nat.le_refl _)] at this; exact this
      have HM : Hid (∀ x ∈ L.map toF, Pl.May x) := by
        intro x hx; obtain ⟨y, _, rfl⟩ := List.mem_map.1 hx; exact toF_may y
      obtain ⟨F, hF⟩ : ∃ F, F = L.map toF := ⟨_, rfl⟩
      have HFl : Hid (F.length = len) := by show _ = _; rw [hF, List.length_map, HL.out]
      rw [← hF] at HA2 hown2 HM hsum
      clear hown HA HK hS HL hF
      go_wp2_with fail
      refine (stream_last _).mono ?_
      rintro e w1 ⟨rfl, hb1⟩
      obtain ⟨Z, hZ⟩ : ∃ Z, Z = streamB 7 1 ⟨#[3, 0, 0, 0, 1]⟩ := ⟨_, rfl⟩
      rw [← hZ]
      have hZs : Z.size = 12 := by rw [hZ]; rfl
      have HZ : Hid (Z = streamB 7 1 ⟨#[3, 0, 0, 0, 1]⟩) := hZ
      clear hZ
      have hown3 := ownsRow_below hown2 hb1
      have hbel3 : Below w.heap.size w w1 := hbel.trans (hb1.mono hbel.size)
      clear hown2 hbel hb1
      go_wp2_with fail
      refine (pick_any cut 12 _ hcut.1 hcut.2 (by decide) (by decide)).mono ?_
      rintro e w2 ⟨rfl, rfl⟩
      obtain ⟨p, hp⟩ : ∃ p : Nat, pk cut 12 = p := ⟨(pk cut 12).toNat, by rw [Int.toNat_of_nonneg (pk_nonneg cut 12 (by decide))]⟩
      have hp1 : p < 12 := by have := pk_lt cut 12 (by decide); omega
      rw [hp]
      clear hp
      have hlim : ¬ 9223372036854775807 < A.size + p := by omega
      go_wp2_with fail
      refine (split_sentC A Z F p len _ hp1 HM.out HFl.out HA2.out HZ.out hA).mono ?_
      rintro e w3 ⟨v1, rfl, hl1, hb3⟩
      obtain ⟨a1, c1, rfl, hv1⟩ := own_view hl1
      obtain ⟨a2, c2, rfl, hv2⟩ := own_view (ownsRow_below hown3 hb3)
      have hbel4 : Below w.heap.size w w3 := hbel3.trans (hb3.mono hbel3.size)
      have HV1 : Hid (∀ i, i < len → ∃ g, a1 = some ⟨g, 0, none⟩ ∧ g < w3.heap.size ∧ ∀ j, j < len * 3 → w3.cell? ⟨g, j, none⟩ = (F.flatMap Pl.frC)[j]?) := hv1
      have HV2 : Hid (∀ i, i < len → ∃ g, a2 = some ⟨g, 0, none⟩ ∧ g < w3.heap.size ∧ ∀ j, j < len * 3 → w3.cell? ⟨g, j, none⟩ = (F.flatMap Pl.frC)[j]?) := hv2
      clear hl1 hb3 hv1 hv2 hown3 hbel3
      go_wp2_with fail
      refine (split_lastC Z _ HZ.out).mono ?_
      rintro e w4 ⟨v4, rfl, hl4, hb4⟩
      obtain ⟨a4, c4, rfl, _⟩ := own_view hl4
      have hbel5 : Below w.heap.size w w4 := hbel4.trans (hb4.mono hbel4.size)
      clear hl4
      go_wp2_with fail
      go_loopw [21] (fun i wq => ∃ q : Nat, q ≤ len ∧ i = .int .i64 (q : Nat) ∧ Below w4.heap.size w4 wq) (fun i _ => len - (intOf i).toNat)
      case atStart => exact ⟨0, Nat.zero_le _, rfl, Below.refl _ _⟩
      case round =>
        obtain ⟨q, hq, rfl, hbq⟩ := hrel
        by_cases hql : q < len
        · obtain ⟨g1, rfl, hg1, hc1⟩ := HV1.out q hql
          obtain ⟨g2, rfl, hg2, hc2⟩ := HV2.out q hql
          have hfl : q < F.length := by rw [HFl.out]; exact hql
          have hfa := flat_at F q hfl
          have hmay := HM.out _ (List.getElem_mem hfl)
          obtain ⟨x, hx⟩ : ∃ x, x = F[q] := ⟨_, rfl⟩
          rw [← hx] at hfa hmay
          clear hx
          obtain ⟨m, u, B⟩ := x
          obtain ⟨hm, hu, hB1, hB2⟩ := hmay
          simp only at hfa hm hu hB1 hB2
          have hup := hb4.size
          have e1 : ∀ j, j < len * 3 → wr.cell? ⟨g1, j, none⟩ = (F.flatMap Pl.frC)[j]? := fun j hj => ((hbq.cell (p := ⟨g1, j, none⟩) (Nat.lt_of_lt_of_le hg1 hup)).trans (hb4.cell (p := ⟨g1, j, none⟩) hg1)).trans (hc1 j hj)
          have e2 : ∀ j, j < len * 3 → wr.cell? ⟨g2, j, none⟩ = (F.flatMap Pl.frC)[j]? := fun j hj => ((hbq.cell (p := ⟨g2, j, none⟩) (Nat.lt_of_lt_of_le hg2 hup)).trans (hb4.cell (p := ⟨g2, j, none⟩) hg2)).trans (hc2 j hj)
          have d10 := (e1 (q * 3) (by omega)).trans hfa.1
          have d11 := (e1 (q * 3 + 1) (by omega)).trans hfa.2.1
          have d12 := (e1 (q * 3 + 2) (by omega)).trans hfa.2.2
          have d20 := (e2 (q * 3) (by omega)).trans hfa.1
          have d21 := (e2 (q * 3 + 1) (by omega)).trans hfa.2.1
          have d22 := (e2 (q * 3 + 2) (by omega)).trans hfa.2.2
          clear e1 e2 hfa hc1 hc2 HV1 HV2
          go_wp2_with fail
          go_quiet (fail)
          obtain ⟨W, hW⟩ : ∃ W, W = wr.drewN nq := ⟨_, rfl⟩
          rw [← hW]
          have k0 : W.cell? ⟨g2, q * 3, none⟩ = some (.int .i64 (m : Nat)) := by rw [hW]; exact d20
          have k1 : W.cell? ⟨g2, q * 3 + 1, none⟩ = some (.int .i64 (u : Nat)) := by rw [hW]; exact d21
          have k2 : W.cell? ⟨g2, q * 3 + 2, none⟩ = some (.string B) := by rw [hW]; exact d22
          have hbW : Below w4.heap.size w4 W := by rw [hW]; exact below_drewN hbq _
          clear hW d10 d11 d12 d20 d21 d22
          go_wp2_with fail
          refine (serialK_any u B _ hu hB2).mono ?_
          rintro e w5 ⟨c, rfl, HC, hb5⟩
          obtain ⟨s, hsd⟩ : ∃ s, s = headB u B ++ tailB c := ⟨_, rfl⟩
          rw [← hsd]
          have hgood := Pl.ser_good u B c hu hB1 hB2 HC.out
          rw [← hsd] at hgood
          have HG : Hid (Pl.serOk s ∧ Pl.byt s 0 = u ∧ s.extract 1 (s.size - 2) = B) := hgood
          have hs1 : s.size = B.size + 3 := by
            rw [hsd, Pl.size_list, Pl.data_append]; simp [headB, tailB]
          have hs4 : 4 ≤ s.size := by omega
          have hs5 : s.size ≤ 256 := by omega
          clear hgood hsd hs1
          go_wp2_with fail
          refine (serial_any s _ (by omega)).mono ?_
          rintro e w6 ⟨u', B', k', rfl, HSI, hb6⟩
          obtain ⟨rfl, rfl, rfl⟩ : u' = u ∧ B' = B ∧ k' = 0 := HSI.eq (.inl ⟨HG.out.1, HG.out.2.1.symm, HG.out.2.2.symm, rfl⟩)
          clear HSI
          have z5 : W.heap.size < w5.heap.size := by have := hb5.size; simp at this; omega
          have z6 : W.heap.size < w6.heap.size := Nat.lt_of_lt_of_le z5 hb6.size
          have f1 : w6.cell? ⟨W.heap.size, 1, none⟩ = some (.int .i64 (u' : Nat)) := (hb6.cell (p := ⟨W.heap.size, 1, none⟩) z5).trans ((hb5.cell (p := ⟨W.heap.size, 1, none⟩) (by simp)).trans (by simp))
          have f2 : w6.cell? ⟨W.heap.size, 2, none⟩ = some (.string B') := (hb6.cell (p := ⟨W.heap.size, 2, none⟩) z5).trans ((hb5.cell (p := ⟨W.heap.size, 2, none⟩) (by simp)).trans (by simp))
          have hb6' : Below w4.heap.size w4 w6 := ((hbW.alloc hbW.size _).trans (hb5.mono (by have := hbW.size; simp; omega))).trans (hb6.mono (by have := hbW.size; omega))
          obtain ⟨capF, nxt, hcv, hnx⟩ := conv_bytes s
          have HNX : Hid (∀ X, (nxt X).heap.size = X.heap.size + 1 ∧ Below X.heap.size X (nxt X) ∧ (∀ j, j < s.size → (nxt X).cell? ⟨X.heap.size, j, none⟩ = some (.int .u8 (Pl.byt s j : Nat))) ∧ (∀ j, j < s.size → (nxt X).frozen? ⟨X.heap.size, j, none⟩ = false)) := hnx
          clear hnx
          go_wp2_with fail
          refine (pick_any turn (s.size : Nat) _ hturn.1 hturn.2 (by omega) (by omega)).mono ?_
          rintro e w7 ⟨rfl, rfl⟩
          obtain ⟨P, hP⟩ : ∃ P : Nat, pk turn (s.size : Nat) = P := ⟨(pk turn (s.size : Nat)).toNat, by rw [Int.toNat_of_nonneg (pk_nonneg _ _ (by omega))]⟩
          have hP1 : P < s.size := by have := pk_lt turn (s.size : Nat) (by omega); omega
          rw [hP]
          clear hP hcv
          obtain ⟨X, hX⟩ : ∃ X, X = w6.alloc (.cells #[.int .i64 0, .int .i64 (u' : Nat), .string B'] 40) := ⟨_, rfl⟩
          rw [← hX]
          have hXs : X.heap.size = w6.heap.size + 1 := by rw [hX]; simp
          obtain ⟨hn1, hn2, hn3, hn4⟩ := HNX.out X
          obtain ⟨Y, hY⟩ : ∃ Y, Y = nxt X := ⟨_, rfl⟩
          rw [← hY] at hn1 hn2 hn3 hn4 ⊢
          have y0 : Y.cell? ⟨w6.heap.size, 0, none⟩ = some (.int .i64 0) := (hn2.cell (p := ⟨w6.heap.size, 0, none⟩) (by show w6.heap.size < _; omega)).trans (by rw [hX]; simp)
          have y1 : Y.cell? ⟨w6.heap.size, 1, none⟩ = some (.int .i64 (u' : Nat)) := (hn2.cell (p := ⟨w6.heap.size, 1, none⟩) (by show w6.heap.size < _; omega)).trans (by rw [hX]; simp)
          have y2 : Y.cell? ⟨w6.heap.size, 2, none⟩ = some (.string B') := (hn2.cell (p := ⟨w6.heap.size, 2, none⟩) (by show w6.heap.size < _; omega)).trans (by rw [hX]; simp)
          have yf : ∀ j, Y.frozen? ⟨w6.heap.size, j, none⟩ = false := fun j => (hn2.frozen (p := ⟨w6.heap.size, j, none⟩) (by show w6.heap.size < _; omega)).trans (by rw [hX]; simp)
          have yc := hn3 P hP1
          have yg := hn4 P hP1
          rw [hXs] at yc yg hn3 hn4
          have HYC : Hid (∀ j, j < s.size → Y.cell? ⟨w6.heap.size + 1, j, none⟩ = some (.int .u8 (Pl.byt s j : Nat))) := hn3
          have hbY : Below w4.heap.size w4 Y := by
            have h1 : Below w4.heap.size w4 X := by rw [hX]; exact hb6'.alloc hb6'.size _
            exact h1.trans (hn2.mono h1.size)
          have hYs : Y.heap.size = w6.heap.size + 2 := by omega
          have HYs : Hid (Y.heap.size = w6.heap.size + 2) := hYs
          have bP := Pl.byt_lt s P
          clear hn1 hn2 hn3 hn4 hY hX HNX hXs hYs f1 f2 k0 k1 k2 hbq hb5 hb6
          obtain ⟨D, hD⟩ : ∃ D : Nat, pk by' 255 = D := ⟨(pk by' 255).toNat, by rw [Int.toNat_of_nonneg (pk_nonneg _ _ (by decide))]⟩
          have hD1 : D < 255 := by have := pk_lt by' 255 (by decide); omega
          have HD : Hid (pk by' 255 = D) := hD
          have wD : IntKind.i64.wrap (1 + (D : Int)) = 1 + (D : Int) := by rw [IntKind.wrap_i64]; omega
          have wE : IntKind.u8.wrap (1 + (D : Int)) = 1 + (D : Int) := by rw [IntKind.wrap_u8]; omega
          clear hD
          go_wp2_with fail
          go_region_law (refine step_call rfl 24 #[.tmp 165, .const (.int .i64 255)] #[3, 3] rfl #[.int .i64 by', .int .i64 255] (by simp [Act.eval, Act.put]) (enter17 _ _ _) _ (pick_step by' 255 _ hby.1 hby.2 (by decide) (by decide)) ?_; rw [HD.out]; rintro v w8 ⟨rfl, rfl⟩)
          all_goals
            obtain ⟨V, hV⟩ : ∃ V, V = (Y.setCell ⟨w6.heap.size + 1, P, none⟩ (.int .u8 (bits .xor .u8 (Pl.byt s P : Int) (1 + (D : Int))))).drew := ⟨_, rfl⟩
            rw [← hV]
            obtain ⟨s', hs', hbad, hcb⟩ := spoil s P D (w6.heap.size + 1) Y V hP1 hD1 HYC.out hV HG.out.1
            have HB : Hid (¬ Pl.serOk s') := hbad
            have hs6 : s'.size ≤ 4194304 := by omega
            have v0 : V.cell? ⟨w6.heap.size, 0, none⟩ = some (.int .i64 0) := by rw [hV]; exact (cell_far Y _ _ _ _ _ (by omega)).trans y0
            have v1 : V.cell? ⟨w6.heap.size, 1, none⟩ = some (.int .i64 (u' : Nat)) := by rw [hV]; exact (cell_far Y _ _ _ _ _ (by omega)).trans y1
            have v2 : V.cell? ⟨w6.heap.size, 2, none⟩ = some (.string B') := by rw [hV]; exact (cell_far Y _ _ _ _ _ (by omega)).trans y2
            have vf : ∀ j, V.frozen? ⟨w6.heap.size, j, none⟩ = false := fun j => by rw [hV]; simpa using yf j
            have hbV : Below w4.heap.size w4 V := by rw [hV]; exact (hbY.setCell (by have := hb6'.size; show _ ≤ w6.heap.size + 1; omega) _).drew
            have zV : w6.heap.size < V.heap.size := by rw [hV]; have := HYs.out; simp; omega
            clear hV y0 y1 y2 yf yc yg hbad hs' wD wE
            go_wp2_with fail
            refine (serial_any s' _ hs6).mono ?_
            rintro e w9 ⟨u9, B9, k9, rfl, HSI, hb9⟩
            obtain ⟨rfl, rfl, rfl⟩ : u9 = 0 ∧ B9 = ⟨#[]⟩ ∧ k9 = 4 := HSI.eq (.inr ⟨HB.out, rfl, rfl, rfl⟩)
            have x0 : w9.cell? ⟨w6.heap.size, 0, none⟩ = some (.int .i64 0) := (hb9.cell (p := ⟨w6.heap.size, 0, none⟩) zV).trans v0
            have x1 : w9.cell? ⟨w6.heap.size, 1, none⟩ = some (.int .i64 (u' : Nat)) := (hb9.cell (p := ⟨w6.heap.size, 1, none⟩) zV).trans v1
            have x2 : w9.cell? ⟨w6.heap.size, 2, none⟩ = some (.string B') := (hb9.cell (p := ⟨w6.heap.size, 2, none⟩) zV).trans v2
            have xf : ∀ j, w9.frozen? ⟨w6.heap.size, j, none⟩ = false := fun j => (hb9.frozen (p := ⟨w6.heap.size, j, none⟩) zV).trans (vf j)
            have hbX : Below w4.heap.size w4 w9 := hbV.trans (hb9.mono hbV.size)
            have hz4 := hb6'.size
            clear HSI v0 v1 v2 vf hcb hb9
            go_wp2
            go_roundw
            case rel => exact ⟨q + 1, by omega, by go_num, ((hbX.setCell (by show _ ≤ w6.heap.size; omega) _).setCell (by show _ ≤ w6.heap.size; omega) _).setCell (by show _ ≤ w6.heap.size; omega) _⟩
            case measure => simp [intOf]; omega
        · go_wp2
          go_ret
          exact ⟨rfl, hbel5.trans (hbq.mono hbel5.size)⟩
end Go.Proofs.Ytcpldcojckhapaa
