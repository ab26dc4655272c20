/-
  Outlasts: the walk.
-/
import Derived.Test.YtcpldcojckhapaaGreatOc
set_option maxRecDepth 100000
set_option linter.unusedVariables false
namespace Go.Proofs.YtcpldcojckhapaaGreat
open Go.RowKit

theorem made8 (ws : Nat → Nat) (W : World) : (Instr.makeSlice 28 (.int .i64 8) (.int .i64 8)).run Tryz.prog W = .ok (.slice (some ⟨W.heap.size, 0, none⟩) 8 8) (W.alloc (.cells (leftC ws 0) 3)) := by
  have h := run_make_row' (P := Tryz.prog) 28 3 (.int .i64 0) 8 Tryz.underlying28 Tryz.infoEI rfl .i64 .i64 8 (by omega) (by omega) W
  have e : leftC ws 0 = madeCells #[Value.int .i64 0] 8 := by
    apply Array.toList_inj.1
    rw [toList_madeCells_one]
    rfl
  rw [e]
  exact h
set_option maxRecDepth 100000 in
set_option maxHeartbeats 8000000 in
theorem outlasts_walk (wa fa : Option Addr) (n wk fl fk : Nat) (vs fs : Nat → Int) (ba cu bi te tr : Int) (w : World) (hv : Vals w wa n vs) (hn : n ≤ 9223372036854775807) (hf : Vals w fa fl fs) (hfl : fl ≤ 9223372036854775807)
    (hba : -9223372036854775808 ≤ ba ∧ ba ≤ 9223372036854775807) (hcu : -9223372036854775808 ≤ cu ∧ cu ≤ 9223372036854775807) (hbi : -9223372036854775808 ≤ bi ∧ bi ≤ 9223372036854775807) (hte : -9223372036854775808 ≤ te ∧ te ≤ 9223372036854775807) (hto : -9223372036854775808 ≤ tr ∧ tr ≤ 9223372036854775807) :
    Calls Tryz.prog 5 #[.slice wa n wk, .slice fa fl fk, .int .i64 ba, .int .i64 cu, .int .i64 bi, .int .i64 te, .int .i64 tr] w fun e w' => e = .returned (.bool true) ∧ Below w.heap.size w w' := by
  obtain ⟨i0, hi, hz0, hz1, hz2⟩ := info_parts Tryz.infoEA
  obtain ⟨x, hx, hpx⟩ := pick_nat ba 8 hba.1 hba.2 (by omega) (by omega)
  obtain ⟨b, hb⟩ : ∃ b : Nat, (1 : Int) + (x : Int) = (b : Nat) := ⟨1 + x, by omega⟩
  have hb1 : 1 ≤ b := by omega
  have hb8 : b ≤ 8 := by omega
  obtain ⟨ws, hws⟩ : ∃ f : Nat → Nat, f = fun j => (pk (vs j) 8).toNat := ⟨_, rfl⟩
  have hwl : ∀ j, ws j < 8 := fun j => by rw [hws]; have := pk_lt (vs j) 8 (by omega); have := pk_nonneg (vs j) 8 (by omega); simp only; omega
  have HWE : Hid (∀ j, pk (vs j) 8 = (ws j : Nat)) := fun j => by rw [hws]; have := pk_nonneg (vs j) 8 (by omega); simp only; omega
  have HWL := hideF hwl
  have HV := hideF hv
  have HF := hideF hf
  have HPX := hideF hpx
  have HCU := hideF hcu
  have HBI := hideF hbi
  have HTE := hideF hte
  have HTO := hideF hto
  obtain ⟨W, hW, hWs, hWb, hWg, hWc⟩ := cfg_o w b
  have HWB := hideF hWb
  have HWG := hideF hWg
  have HWC := hideF hWc
  have hB1 : w.heap.size + 1 < W.heap.size := by omega
  clear hws hwl hv hf hpx hba hcu hbi hte hto hWb hWg hWc
  go_enter Tryz.func5, Tryz.ntmps5
  go_wp2_with fail
  refine (HPX.out _).mono ?_
  rintro e w1 ⟨rfl, rfl⟩
  go_wp2_with fail
  rw [← hW]
  clear hW
  refine (opened_at 0 0 8 0 0 8 1 1 1 b w.heap.size (fun _ => 0) W (by omega) (by omega) (by omega) (by omega) rfl (by omega) (by omega) (by omega) (by omega) (by omega) (by omega) hb1 hb8 (by omega) (fun j hj => by
    obtain rfl : j = 0 := by omega
    rw [cell_of_row _ _ _ _ _ _ HWG.out]
    rfl) (fun _ _ => by omega)).mono ?_
  rintro e w1 ⟨d, v1, rfl, hdev, hov1, hb1'⟩
  obtain ⟨L, S, E, wv, hD⟩ := hdev
  obtain ⟨B, hB⟩ : ∃ B, B = W.heap.size := ⟨_, rfl⟩
  obtain ⟨av, kd, rfl, hat⟩ := own_view hov1
  obtain ⟨gd, rfl, hgd, hcd⟩ := hat 0 (by omega)
  have HO1 : Hid (OIn W w1 d L S E gd B b ws 0 (.slice none 0 0) [] 0 0 0 wv) := by
    refine ⟨Nat.le_refl _, by omega, .nil, World.ownsRow_nil _ _ _ _, ?_, ?_, ?_⟩
    · rw [← oD_start, hB]; exact hD
    · rcases hov1.2 with ⟨h1, h2⟩ | ⟨g, cap, cur, h1, h2, h3, h4, h5, h6, h7⟩
      · exact absurd h2 (by omega)
      · have : gd = g := by simp at h1; exact h1.1
        subst this
        refine ⟨cur, h3, ?_, ?_⟩
        · have := hcd 0 (by omega); rw [cell_of_row _ _ _ _ _ _ h3] at this; exact this
        · have := hcd 1 (by omega); rw [cell_of_row _ _ _ _ _ _ h3] at this; exact this
    · rw [hB]; exact hb1'
  have hBw : w.heap.size ≤ B := by omega
  have HBE := hideF hB
  have HGD : Hid (B ≤ gd) := by show B ≤ gd; rw [hB]; rcases hov1.2 with ⟨h1, h2⟩ | ⟨g, cap, cur, h1, h2, h3, h4, h5, h6, h7⟩; exact absurd h2 (by omega); (have : gd = g := by simp at h1; exact h1.1); rw [this]; exact h2
  have hkd : Hid (2 ≤ kd) := by
    rcases hov1.2 with ⟨h1, h2⟩ | ⟨g, cap, cur, h1, h2, h3, h4, h5, h6, h7⟩
    · exact absurd h2 (by omega)
    · have : kd = cap := by simp at h1; exact h1.2
      subst this
      first | exact h4 | exact h5 | exact h6
  clear hD hov1 hb1' hat hcd hgd hB
  go_upto_block 0 with fail
  go_cut [14, 18, 19, 20, 21] from 53 to 96 (fun r a i l e wr => ∃ (q t lat st : Nat) (A : List (Int × Int × Int × ByteArray)) (wv : Value), q ≤ n ∧ q ≤ 200 ∧ (q = n ∨ q = 200) ∧ OIn W wr d L S E gd B b ws q a A t lat st wv)
  case first =>
    go_wp2_with fail
    go_loopw [18, 19, 20, 21] (fun a i l e wr => ∃ (q t lat st : Nat) (A : List (Int × Int × Int × ByteArray)) (wv : Value), q ≤ n ∧ q ≤ 200 ∧ i = .int .i64 (q : Nat) ∧ OIn W wr d L S E gd B b ws q a A t lat st wv) (fun _ i _ _ _ => 200 - (intOf i).toNat)
    case atStart => exact ⟨0, 0, 0, 0, [], wv, Nat.zero_le _, Nat.zero_le _, rfl, HO1.out⟩
    case round =>
      obtain ⟨q, t, lat, st, A, wv2, hqn, hq2, rfl, hO⟩ := hrel
      by_cases hlt : q < n ∧ q < 200
      · obtain ⟨hlt1, hlt2⟩ := hlt
        obtain ⟨g, o, rfl, hg, hcell, hv1, hv2⟩ := HV.out q hlt1
        have hsz := hO.bel.size
        have hcr : wr.cell? ⟨g, o + q, none⟩ = some (.int .i64 (vs q)) := (hO.bel.cell (p := ⟨g, o + q, none⟩) (by show g < B; omega)).trans ((HWB.out.cell (p := ⟨g, o + q, none⟩) hg).trans hcell)
        have HO := hideF hO
        have hwq := HWL.out q
        have HWR : Hid (∀ V : World, Calls Tryz.prog 22 #[.int .i64 (ws q : Nat), .int .i64 ((q : Int) + 1)] V fun e w' => e = .returned (.string (writeB (ws q) (q + 1))) ∧ Below V.heap.size V w') := fun V => by
          have := writeK_any (ws q) (q + 1) V (by omega) (by omega)
          rwa [show ((q + 1 : Nat) : Int) = (q : Int) + 1 by omega] at this
        clear hO hcell
        go_wp2_with fail
        refine (pick_any (vs q) 8 _ hv1 hv2 (by omega) (by omega)).mono ?_
        rintro e w2 ⟨rfl, hw2⟩
        rw [hw2, HWE.out q]
        clear hw2 w2 hcr
        go_wp2_with fail
        refine (HWR.out _).mono ?_
        rintro e w3 ⟨rfl, hb3⟩
        have HO3 := hideF (HO.out.then_below HBE.out hb3)
        clear hb3 HO
        go_wp2_with fail
        refine (stream_any q 1 (writeB (ws q) (q + 1)) _ (by omega) (by omega) (by rw [writeB_size]; omega)).mono ?_
        rintro e w4 ⟨rfl, hb4⟩
        have HO4 := hideF (HO3.out.then_below HBE.out hb4)
        clear hb4 HO3
        go_wp2_with fail
        refine (oFeed d L S E wv2 w4 HO4.out.dev hwq hlt2 HO4.out.tq HO4.out.qb hb8 A HO4.out.hist _ rfl).mono ?_
        rintro e w5 ⟨v5, wv5, A5, t5, lat5, st5, rfl, hown5, hD5, hH5, ht5, hq5, hF5⟩
        obtain ⟨a5, k5, rfl, _⟩ := own_view hown5
        have hl5 := hH5.len
        rw [List.length_append] at hl5
        have HA5 := hideF (own_ft HO4.out.acts hF5)
        have hs5 := hF5.size
        have hs4 := HO4.out.bel.size
        have HOW := hideF hown5
        have HD5 := hideF hD5
        have HH5 := hideF hH5
        have HF5 := hideF hF5
        have hbB : B = W.heap.size := HBE.out
        have hB5 : B ≤ w5.heap.size := by omega
        have HL5 := hideF hl5
        clear hown5 hD5 hH5 hF5 hl5 hbB
        go_wp2_with (at_builtin; refine wpList_append_any rfl (.tmp 80) (.tmp 81) 31 rfl B w4.heap.size 77 i0 _ 4 40 Tryz.underlying31 hi hz0 hz1 hz2 rfl (by decide) _ A.length _ rfl HA5.out (.slice a5 A5.length k5) A5.length (A5.flatMap encA) rfl HOW.out (encA_one _) (by have := HL5.out.1; unfold maxLen; omega) (by have := HL5.out.1; omega) hB5 ?_; intro v6 w6 hown6 hgrow6)
        have HO6 := hideF (HO4.out.fed HBE.out HF5.out HD5.out HH5.out ht5 hq5 hown6 hgrow6)
        clear hown6 hgrow6 HO4 HA5 HOW HD5 HH5 HF5 HL5 hs5 hs4
        have hVF : Vals w6 fa fl fs := fun j hj => by
          obtain ⟨g, o, h1, h2, h3, h4⟩ := HF.out j hj
          have hs := HO6.out.bel.size
          exact ⟨g, o, h1, by omega, (HO6.out.bel.cell (p := ⟨g, o + j, none⟩) (by show g < B; omega)).trans ((HWB.out.cell (p := ⟨g, o + j, none⟩) h2).trans h3), h4⟩
        refine (at_any q fl fk fa fs w6 hVF hfl (by omega)).mono ?_
        rintro e w7 ⟨y, rfl, hy1, hy2, rfl⟩
        clear hVF
        go_wp2_with fail
        obtain ⟨y4, hy4, hpy⟩ := pick_nat y 4 hy1 hy2 (by omega) (by omega)
        refine (hpy _).mono ?_
        rintro e w8 ⟨rfl, rfl⟩
        clear hpy
        by_cases hfz : y4 = 0 ∧ 0 < fl
        · obtain ⟨rfl, hfp⟩ := hfz
          have hfp' : (0 : Int) < (fl : Int) := by omega
          go_wp2_with fail
          refine (oFlush d L S E wv5 _ HO6.out.dev (by omega) HO6.out.tq HO6.out.qb hb8 (A ++ A5) HO6.out.hist).mono ?_
          rintro e w9 ⟨v9, wv9, A9, lat9, st9, rfl, hown9, hD9, hH9, hF9⟩
          obtain ⟨a9, k9, rfl, _⟩ := own_view hown9
          have hl9 := hH9.len
          rw [List.length_append] at hl9
          have HA9 := hideF (own_ft HO6.out.acts hF9)
          have hs9 := hF9.size
          have hs6 := HO6.out.bel.size
          have HOW := hideF hown9
          have HD9 := hideF hD9
          have HH9 := hideF hH9
          have HF9 := hideF hF9
          have hbB : B = W.heap.size := HBE.out
          have hB9 : B ≤ w9.heap.size := by omega
          have HL9 := hideF hl9
          clear hown9 hD9 hH9 hF9 hl9 hbB
          go_wp2_with (at_builtin; refine wpList_append_any rfl (.tmp 93) (.tmp 95) 31 rfl B _ 77 i0 _ 4 40 Tryz.underlying31 hi hz0 hz1 hz2 rfl (by decide) _ (A ++ A5).length _ rfl HA9.out (.slice a9 A9.length k9) A9.length (A9.flatMap encA) rfl HOW.out (encA_one _) (by have := HL9.out.1; unfold maxLen; omega) (by have := HL9.out.1; omega) hB9 ?_; intro v10 w10 hown10 hgrow10)
          have HO10 := hideF (HO6.out.fed HBE.out HF9.out HD9.out HH9.out (Nat.le_refl _) (by omega) hown10 hgrow10)
          clear hown10 hgrow10 HO6 HA9 HOW HD9 HH9 HF9 HL9 hs9 hs6
          go_roundw
          case rel => exact ⟨q + 1, _, _, _, _, _, by omega, by omega, by go_num, HO10.out⟩
          case measure => simp [intOf]; omega
        · by_cases hy0 : y4 = 0
          · subst hy0
            have HF0 : Hid (fl = 0) := by show fl = 0; omega
            clear hfz
            go_wp2_with fail
            · exfalso
              have := HF0.out
              omega
            · go_roundw
              case rel => exact ⟨q + 1, _, _, _, _, _, by omega, by omega, by go_num, HO6.out⟩
              case measure => simp [intOf]; omega
          · have hy0' : ((y4 : Int) == 0) = false := by rw [beq_eq_false_iff_ne]; omega
            go_wp2_with fail
            go_roundw
            case rel => exact ⟨q + 1, _, _, _, _, _, by omega, by omega, by go_num, HO6.out⟩
            case measure => simp [intOf]; omega
      · by_cases hA : q < n
        · have hB' : ¬ q < 200 := fun h => hlt ⟨hA, h⟩
          go_wp2
          go_meet
          case rel => exact ⟨q, t, lat, st, A, wv2, hqn, hq2, by omega, hO⟩
        · go_wp2
          go_meet
          case rel => exact ⟨q, t, lat, st, A, wv2, hqn, hq2, by omega, hO⟩
  case rest =>
    obtain ⟨N, t, lat, st, A0, wv2, hNn, hN2, hNe, hO⟩ := hcut
    obtain ⟨a18, k18, rfl, _⟩ := own_view hO.acts
    have HO := hideF hO
    have HNE := hideF hNe
    clear hO hNe
    go_wp2_with fail
    refine (oFlush d L S E wv2 wc HO.out.dev hN2 HO.out.tq HO.out.qb hb8 A0 HO.out.hist).mono ?_
    rintro e w5 ⟨v5, wv5, A5, lat5, st5, rfl, hown5, hD5, hH5, hF5⟩
    obtain ⟨a5, k5, rfl, _⟩ := own_view hown5
    have hl5 := hH5.len
    rw [List.length_append] at hl5
    have HA5 := hideF (own_ft HO.out.acts hF5)
    have hs5 := hF5.size
    have hs4 := HO.out.bel.size
    have HOW := hideF hown5
    have HD5 := hideF hD5
    have HH5 := hideF hH5
    have HF5 := hideF hF5
    have hbB : B = W.heap.size := HBE.out
    have hB5 : B ≤ w5.heap.size := by omega
    have HL5 := hideF hl5
    clear hown5 hD5 hH5 hF5 hl5 hbB
    go_upto_region 15 with (at_builtin; refine wpList_append_any rfl (.tmp 97) (.tmp 99) 31 rfl B wc.heap.size 77 i0 _ 4 40 Tryz.underlying31 hi hz0 hz1 hz2 rfl (by decide) _ A0.length _ rfl HA5.out (.slice a5 A5.length k5) A5.length (A5.flatMap encA) rfl HOW.out (encA_one _) (by have := HL5.out.1; unfold maxLen; omega) (by have := HL5.out.1; omega) hB5 ?_; intro v6 w6 hown6 hgrow6; obtain ⟨a6, k6, rfl, _⟩ := own_view hown6)
    have hO6 := HO.out.fed HBE.out HF5.out HD5.out HH5.out (Nat.le_refl _) (by omega) hown6 hgrow6
    obtain ⟨A, hA⟩ : ∃ A, A = A0 ++ A5 := ⟨_, rfl⟩
    have hAl : A0.length + A5.length = A.length := by rw [hA, List.length_append]
    rw [← hA, hAl] at hO6
    have hR := hist_run (N := N) hO6.hist (Nat.le_refl _)
    have hAn := hO6.hist.len.1
    obtain ⟨m, hm, hpm⟩ := pick_nat cu (A.length + 1) HCU.out.1 HCU.out.2 (by omega) (by omega)
    have HPM : Hid (∀ V : World, Calls Tryz.prog 18 #[.int .i64 cu, .int .i64 ((A.length : Int) + 1)] V fun e w' => e = .returned (.int .i64 (m : Nat)) ∧ w' = V) := fun V => by
      have := hpm V
      rwa [show ((A.length + 1 : Nat) : Int) = (A.length : Int) + 1 by omega] at this
    have HP6 : Hid (PIn W w6 B gd (.slice a6 A.length k6) A startD (.slice none 0 0)) := ⟨hO6.acts, .inl ⟨rfl, rfl⟩, hO6.disk, hO6.bel⟩
    have HR := hideF hR
    have hBgd : Hid (B ≤ gd) := HGD.out
    clear hown6 hgrow6 HO HA5 HOW HD5 HH5 HF5 HL5 hs5 hs4 hO6 hR hpm hA
    rw [hAl]
    clear hAl
    go_wp2_with fail
    refine (HPM.out _).mono ?_
    rintro e w7 ⟨rfl, rfl⟩
    go_upto_block 2 with fail
    go_cut [14, 23, 24, 25, 26, 27] from 106 to 160 (fun r told wet i x y wr => told = .int .i64 ((runD (A.take m)).told : Nat) ∧ PIn W wr B gd (.slice a6 A.length k6) A (runD (A.take m)) wet)
    case first =>
      go_wp2_with fail
      go_loopw [23, 24, 25, 26, 27] (fun told wet i x y wr => ∃ j : Nat, j ≤ m ∧ i = .int .i64 (j : Nat) ∧ told = .int .i64 ((runD (A.take j)).told : Nat) ∧ PIn W wr B gd (.slice a6 A.length k6) A (runD (A.take j)) wet) (fun _ _ i _ _ _ => m - (intOf i).toNat)
      case atStart => exact ⟨0, Nat.zero_le _, rfl, rfl, HP6.out⟩
      case round =>
        obtain ⟨j, hj, rfl, rfl, hP⟩ := hrel
        by_cases hlt : j < m
        · have hjA : j < A.length := by omega
          obtain ⟨x, hx⟩ : ∃ x, A[j]? = some x := ⟨_, List.getElem?_eq_getElem hjA⟩
          have HSN := hideF (runD_snoc A j x hx)
          have hgood := HR.out.2.1 j x hx
          have hok := HR.out.1 j
          obtain ⟨s, hs⟩ : ∃ s, s = runD (A.take j) := ⟨_, rfl⟩
          rw [← hs] at hP hgood hok
          have HSE := hideF hs
          have hSN := HSN.out
          rw [← hs] at hSN
          rw [← hs]
          clear hs HSN
          have HSN := hideF hSN
          have htold : s.told ≤ 200 := by obtain ⟨_, _, jj, _, h2, h3, _⟩ := hok; omega
          obtain ⟨g6, rfl, hg6, c0, c1, c2, c3⟩ := acts_at hP.acts j x hx
          obtain ⟨Z, hZ⟩ : ∃ Z, Z = wr.alloc (.cells #[.int .u8 x.1, .int .i64 x.2.1, .int .i64 x.2.2.1, .string x.2.2.2] 77) := ⟨_, rfl⟩
          have hZb : Below wr.heap.size wr Z := by rw [hZ]; exact bel_alloc (Below.refl _ _) _
          have hZg : Z.heap[wr.heap.size]? = some (.cells #[.int .u8 x.1, .int .i64 x.2.1, .int .i64 x.2.2.1, .string x.2.2.2] 77 (0, 0)) := by rw [hZ]; exact heap_alloc_new wr _
          have HPZ := hideF (hP.then_below HBE.out hZb)
          have hsW := hP.bel.size
          have HOK := hideF hok
          have HZG := hideF hZg
          have HX := hideF hx
          clear hP hok hZg hSN hx hZb
          obtain ⟨k, sc, ln, dat⟩ := x
          simp only at c0 c1 c2 c3 hZ
          rcases hgood with ⟨hk, hsc, hds, hwet⟩ | hk | hk
          · obtain rfl : k = 0 := hk
            simp only at hsc hds
            have hq0 : 0 ≤ sc := by omega
            have hq2 : sc < 2 := by omega
            have hu : u24 = .slice none 0 0 := by
              rcases HPZ.out.wet with ⟨_, h⟩ | ⟨y, h, _⟩
              · exact h
              · rw [hwet] at h; simp at h
            subst hu
            have HWT := hideF hwet
            clear hsc hwet
            go_upto_region 22 with fail
            rw [← hZ]
            clear hZ c0 c1 c2 c3
            obtain ⟨z0, z1, z2, z3⟩ := cells4 HZG.out
            go_wp2_with (at_builtin; refine wpList_append_own _ rfl (.tmp 134) (.tmp 136) 31 rfl Z.heap.size 77 i0 _ 4 40 Tryz.underlying31 hi hz0 hz1 hz2 rfl (by decide) (.slice none 0 0) 0 [] rfl (World.ownsRow_nil _ _ _ _) ⟨Z.heap.size, 0, none⟩ 1 1 (encA (0, sc, ln, dat)) rfl rfl (cell_four_new _ _ _ _ _ _) (by have := encA_one [(0, sc, ln, dat)]; simpa using this) (by unfold maxLen; omega) (by omega) (by simp) ?_; intro v8 w8 hown8 hgrow8 _)
            go_roundw
            case rel =>
              refine ⟨j + 1, by omega, by go_num, ?_, ?_⟩
              · rw [HSN.out]; rfl
              · rw [HSN.out]
                rw [Nat.zero_add, List.nil_append] at hown8
                exact PIn.wrote (HPZ.out.then_below HBE.out (bel_alloc (Below.refl _ _) _)) HBE.out HWT.out rfl (by have := HPZ.out.bel.size; have := HBE.out; omega) hgrow8 hown8
            case measure => simp [intOf]; omega
          · obtain rfl : k = 1 := hk
            go_upto_region 22 with fail
            rw [← hZ]
            clear hZ c0 c1 c2 c3
            obtain ⟨z0, z1, z2, z3⟩ := cells4 HZG.out
            rcases HOK.out.wet with hwet | ⟨q, dt, hq, hd64, hd0, hd1, hwet, _, _⟩
            · have hu : u24 = .slice none 0 0 := by
                rcases HPZ.out.wet with ⟨_, h⟩ | ⟨y, h, _⟩
                · exact h
                · rw [hwet] at h; simp at h
              subst hu
              have HWT := hideF hwet
              clear hwet
              go_wp2_with fail
              go_loopw [27] (fun kk wr2 => kk = .int .i64 0 ∧ wr2 = Z) (fun _ _ => 0)
              case atStart => exact ⟨rfl, rfl⟩
              case round =>
                obtain ⟨rfl, rfl⟩ := hrel
                go_wp2_with fail
                go_roundw
                case rel =>
                  refine ⟨j + 1, by omega, by go_num, ?_, ?_⟩
                  · rw [HSN.out, sync_none rfl HWT.out]
                  · rw [HSN.out, sync_none rfl HWT.out]
                    exact ⟨HPZ.out.acts, .inl ⟨rfl, rfl⟩, HPZ.out.disk, HPZ.out.bel⟩
                case measure => simp [intOf]; omega
            · have hown : Z.ownsRow B 77 4 u24 1 (encA (0, (q : Int), 0, dt)) := by
                rcases HPZ.out.wet with ⟨h, _⟩ | ⟨y, h, ho⟩
                · rw [hwet] at h; simp at h
                · rw [hwet] at h
                  obtain rfl : (0, (q : Int), 0, dt) = y := by simpa using h
                  exact ho
              obtain ⟨a24, c24, rfl, hat⟩ := own_view hown
              obtain ⟨gw, rfl, hgw, hcw⟩ := hat 0 (by omega)
              have y1 : Z.cell? ⟨gw, 1, none⟩ = some (.int .i64 (q : Nat)) := hcw 1 (by omega)
              have y3 : Z.cell? ⟨gw, 3, none⟩ = some (.string dt) := hcw 3 (by omega)
              obtain ⟨_, _, dq, dfz⟩ := HPZ.out.disk.cells
              have dq' := dq q hq
              have hq' : (q : Int) < 2 := by omega
              have HWT := hideF hwet
              clear hwet hown hat hcw dq
              go_wp2_with fail
              go_loopw [27] (fun kk wr2 => (kk = .int .i64 0 ∧ wr2 = Z) ∨ (kk = .int .i64 1 ∧ ∃ nd, wr2 = (Z.setCell ⟨gd, q, none⟩ (.string dt)).drewN nd)) (fun kk _ => 1 - (intOf kk).toNat)
              case atStart => exact .inl ⟨rfl, rfl⟩
              case round =>
                rcases hrel with ⟨rfl, rfl⟩ | ⟨rfl, nd, rfl⟩
                · go_wp2_with fail
                  go_region
                  go_wp2_with fail
                  go_roundw
                  case rel => exact .inr ⟨rfl, 1, rfl⟩
                  case measure => simp [intOf]
                · go_wp2_with fail
                  go_roundw
                  case rel =>
                    refine ⟨j + 1, by omega, by go_num, ?_, ?_⟩
                    · rw [HSN.out, sync_one rfl HWT.out]
                    · rw [HSN.out, sync_one rfl HWT.out]
                      obtain ⟨l1, l2, l3⟩ := HPZ.out.laid hBgd.out hq dt 0 0
                      exact PIn.then_below (s := ⟨putD s.dk (0, (q : Int), 0, dt), [], s.told⟩) ⟨l1, .inl ⟨rfl, rfl⟩, l2, l3⟩ HBE.out (below_drewN (Below.refl _ _) _)
                  case measure => simp [intOf]; omega
          · obtain rfl : k = 2 := hk
            go_upto_region 22 with fail
            rw [← hZ]
            clear hZ c0 c1 c2 c3
            obtain ⟨z0, z1, z2, z3⟩ := cells4 HZG.out
            go_wp2_with fail
            go_roundw
            case rel =>
              refine ⟨j + 1, by omega, by go_num, ?_, ?_⟩
              · rw [HSN.out]
                have e : (stepD s (2, sc, ln, dat)).told = s.told + 1 := rfl
                rw [e]; go_num
              · rw [HSN.out]; exact HPZ.out.told rfl
            case measure => simp [intOf]; omega
        · obtain rfl : j = m := by omega
          go_wp2
          go_meet
          case rel => exact ⟨rfl, hP⟩
    case rest =>
      obtain ⟨rfl, hP⟩ := hcut
      have hok := HR.out.1 m
      obtain ⟨s, hs⟩ : ∃ s, s = runD (A.take m) := ⟨_, rfl⟩
      have HFULL : Hid (m = A.length → s.told = N) := fun e => by rw [hs, e, List.take_length]; exact HR.out.2.2.2.2
      rw [← hs] at hP hok
      rw [← hs]
      clear hs HR HP6
      have HOK := hideF hok
      have HP := hideF hP
      have hst : s.told ≤ 200 := by obtain ⟨_, _, jj, _, h2, h3, _⟩ := hok; omega
      clear hok hP
      go_upto_block 6 with fail
      go_cut [28, 29, 30] from 161 to 211 (fun k q t wr => ∃ f, FinD ws N s.told f ∧ DiskIn wr gd f ∧ Below B W wr)
      case first =>
        rcases HOK.out.wet with hwet | ⟨q, dt, hq, hd64, hd0, hd1, hwet, hf1, hf2⟩
        · have hu : u24 = .slice none 0 0 := by
            rcases HP.out.wet with ⟨_, h⟩ | ⟨y, h, _⟩
            · exact h
            · rw [hwet] at h; simp at h
          subst hu
          clear hwet
          go_wp2_with fail
          go_loopw [28, 29, 30] (fun kk _ _ wr2 => kk = .int .i64 0 ∧ wr2 = wc) (fun _ _ _ _ => 0)
          case atStart => exact ⟨rfl, rfl⟩
          case round =>
            obtain ⟨rfl, rfl⟩ := hrel
            go_wp2_with fail
            go_meet
            case rel => exact ⟨s.dk, HOK.out.fin, HP.out.disk, HP.out.bel⟩
        · have hown : wc.ownsRow B 77 4 u24 1 (encA (0, (q : Int), 0, dt)) := by
            rcases HP.out.wet with ⟨h, _⟩ | ⟨y, h, ho⟩
            · rw [hwet] at h; simp at h
            · rw [hwet] at h
              obtain rfl : (0, (q : Int), 0, dt) = y := by simpa using h
              exact ho
          obtain ⟨a24, c24, rfl, hat⟩ := own_view hown
          obtain ⟨gw, rfl, hgw, hcw⟩ := hat 0 (by omega)
          have y1 : wc.cell? ⟨gw, 1, none⟩ = some (.int .i64 (q : Nat)) := hcw 1 (by omega)
          have y3 : wc.cell? ⟨gw, 3, none⟩ = some (.string dt) := hcw 3 (by omega)
          obtain ⟨_, _, dq, dfz⟩ := HP.out.disk.cells
          have dq' := dq q hq
          obtain ⟨ox, hox⟩ : ∃ ox, ox = s.dk q := ⟨_, rfl⟩
          have hox64 : ox.size = 64 := by
            rw [hox]
            rcases (show q = 0 ∨ q = 1 by omega) with rfl | rfl
            · exact hd0
            · exact hd1
          rw [← hox] at dq'
          have HOX := hideF hox
          have hq' : (q : Int) < 2 := by omega
          have HWT := hideF hwet
          have HF1 := hideF hf1
          have HF2 := hideF hf2
          obtain ⟨y, hy, hpy⟩ := pick_nat te 2 HTE.out.1 HTE.out.2 (by omega) (by omega)
          obtain ⟨t5, ht5, hpt⟩ := pick_nat tr 65 HTO.out.1 HTO.out.2 (by omega) (by omega)
          have HPY := hideF hpy
          have HPT := hideF hpt
          clear hwet hown hat hcw dq hox hf1 hf2 hpy hpt hd0 hd1
          go_wp2_with fail
          go_loopw [28, 29, 30] (fun kk _ _ wr2 => (kk = .int .i64 0 ∧ wr2 = wc) ∨ (kk = .int .i64 1 ∧ ∃ f, FinD ws N s.told f ∧ DiskIn wr2 gd f ∧ Below B W wr2)) (fun kk _ _ _ => 1 - (intOf kk).toNat)
          case atStart => exact .inl ⟨rfl, rfl⟩
          case round =>
            rcases hrel with ⟨rfl, rfl⟩ | ⟨rfl, f, h1, h2, h3⟩
            · go_wp2_with fail
              refine (HPY.out _).mono ?_
              rintro e w8 ⟨rfl, rfl⟩
              rcases (show y = 0 ∨ y = 1 by omega) with rfl | rfl
              · go_wp2_with fail
                refine (HPT.out _).mono ?_
                rintro e w9 ⟨rfl, rfl⟩
                have ht6 : (t5 : Int) ≤ 64 := by omega
                go_wp2_with fail
                go_region
                go_wp2_with fail
                go_roundw
                case rel =>
                  obtain ⟨l1, l2, l3⟩ := HP.out.laid hBgd.out hq (dt.extract 0 t5 ++ ox.extract t5 64) 0 0
                  have hfn := HF2.out t5 (by omega)
                  rw [← HOX.out] at hfn
                  exact .inr ⟨rfl, _, hfn, l2.bel (below_drewN (Below.refl _ _) 1), l3.trans ⟨rfl, rfl, rfl, Nat.le_refl _, fun _ _ => rfl⟩⟩
                case measure => simp [intOf]
              · go_wp2_with fail
                · go_roundw
                  case rel =>
                    obtain ⟨l1, l2, l3⟩ := HP.out.laid hBgd.out hq dt 0 0
                    exact .inr ⟨rfl, _, HF1.out, l2, l3⟩
                  case measure => simp [intOf]
                · go_roundw
                  case rel => exact .inr ⟨rfl, _, HOK.out.fin, HP.out.disk, HP.out.bel⟩
                  case measure => simp [intOf]
            · go_wp2_with fail
              go_meet
              case rel => exact ⟨f, h1, h2, h3⟩
      case rest =>
        obtain ⟨f, ⟨lt, sq, jj, hset, htj, hjN⟩, hdisk, hbel⟩ := hcut
        have hsz := hset.size
        have HSET := hideF hset
        obtain ⟨hd0, hd1, _, _⟩ := hdisk.cells
        have hgd := hdisk.lt
        have hcg : wc.heap[w.heap.size + 1]? = _ := (hbel.block (w.heap.size + 1) (by have := HBE.out; omega)).trans HWC.out
        have hlg : wc.heap[w.heap.size]? = _ := (hbel.block w.heap.size (by have := HBE.out; omega)).trans HWG.out
        have hsB := hbel.size
        have HBW : Hid (Below w.heap.size w wc) := HWB.out.trans (hbel.mono (by omega))
        obtain ⟨c0, c1, c2, c3, c4, c5, c6, c7, c8⟩ := cells9 hcg
        have HL0 : Hid (∀ j, j < 1 → wc.cell? ⟨w.heap.size, j, none⟩ = some (.int .i64 ((0 : Nat) : Int))) := fun j hj => by
          obtain rfl : j = 0 := by omega
          rw [cell_of_row _ _ _ _ _ _ hlg]; rfl
        have HD0 := hideF hd0
        have HD1 := hideF hd1
        have HSZ := hideF hsz
        clear hset hd0 hd1 hlg hcg hdisk hbel hsz HP HOK
        go_wp2_with fail
        refine (open_any 0 0 8 0 0 8 1 1 1 b w.heap.size gd kd (fun _ => 0) (f 0) (f 1) wc (by omega) (by omega) (by omega) (by omega) rfl (by omega) (by omega) (by omega) (by omega) (by omega) (by omega) hb1 hb8 (by omega) HL0.out (fun _ _ => by omega) hkd.out hgd HD0.out HD1.out HSZ.out.1 HSZ.out.2).mono ?_
        rintro e w8 ⟨d2, va, la, rfl, hdev, hown, hns, hla, hb8'⟩
        obtain ⟨L2, S2, E2, wv3, hD2⟩ := hdev
        obtain ⟨ava, kva, rfl, _⟩ := own_view hown
        have HOWN := hideF hown
        have HNS := hideF hns
        have HD2 := hideF hD2
        have HB8 := hideF (bel_then HBW.out hb8')
        clear hown hns hD2 hb8' HBW c0 c1 c2 c3 c4 c5 c6 c7 c8
        go_wp2_with fail
        refine (sends_any la _ _ _ (by omega) HOWN.out).mono ?_
        rintro e w9 ⟨u9, rfl, hu9, hb9⟩
        rw [noSend_sends HNS.out] at hu9
        obtain ⟨a9, k9, rfl, _⟩ := own_view hu9
        have HD9 := hideF (HD2.out.belowQ hb9)
        have HB9 := hideF (bel_then HB8.out hb9)
        clear hu9 hb9 HD2 HB8 HOWN HNS
        go_wp2_with fail
        refine (look_any d2 L2 S2 2 E2 wv3 _ ((left ws jj).map fun x => ((x : Nat) : Int)) w9 HD9.out (by omega) (by rw [List.length_map, left_len]; rfl) (by show 8 ≤ 1000; omega) (fun j x hj => by
          have hj' : (left ws jj)[j]? = some ((left ws jj).getD j 0) ∧ j < 8 ∧ x = (((left ws jj).getD j 0 : Nat) : Int) := by
            rw [List.getElem?_map] at hj
            obtain ⟨y, hy, rfl⟩ := Option.map_eq_some_iff.1 hj
            have hl : j < (left ws jj).length := (List.getElem?_eq_some_iff.1 hy).1
            rw [left_len] at hl
            rw [List.getD_eq_getElem?_getD, hy]
            exact ⟨rfl, hl, rfl⟩
          rw [hj'.2.2]
          exact HSET.out.read (by omega) j hj'.2.1)).mono ?_
        rintro e w10 ⟨v10, rfl, ho10, hb10⟩
        have ho10' : w10.ownsRow w9.heap.size 3 1 v10 8 (((left ws jj).map fun x => ((x : Nat) : Int)).flatMap encI) := ho10
        obtain ⟨a10, k10, hv10, hat10⟩ := own_view ho10'
        subst hv10
        obtain ⟨gl, rfl, hgl, hcl⟩ := hat10 0 (by omega)
        have HCL : Hid (∀ j x, ((left ws jj).map fun x => ((x : Nat) : Int))[j]? = some x → w10.cell? ⟨gl, j, none⟩ = some (.int .i64 x)) := fun j x hj => by
          have hjl : j < 8 := by have := (List.getElem?_eq_some_iff.1 hj).1; rw [List.length_map, left_len] at this; exact this
          rw [hcl j (by omega)]
          have hlen : j < ((left ws jj).map fun x => ((x : Nat) : Int)).length := by rw [List.length_map, left_len]; exact hjl
          have := flat_gen encI 1 (fun _ => rfl) ((left ws jj).map fun x => ((x : Nat) : Int)) j 0 hlen (by omega)
          rw [Nat.mul_one, Nat.add_zero] at this
          rw [this]
          rw [List.getElem?_eq_getElem hlen] at hj
          rw [Option.some.inj hj]; rfl
        have HB10 := hideF (bel_then HB9.out hb10)
        clear ho10 ho10' hat10 hcl hb10 HD9 HB9 HSET
        have hmk := made8 ws
        go_upto_block 8 with fail
        clear hmk
        obtain ⟨gq, hgq⟩ : ∃ gq, gq = w10.heap.size := ⟨_, rfl⟩
        obtain ⟨X, hX⟩ : ∃ X, X = w10.alloc (.cells (leftC ws 0) 3) := ⟨_, rfl⟩
        have HC0 : Hid (CIn X X gq ws 0) := ⟨by rw [hX, hgq]; exact heap_alloc_new w10 _, Chg1.refl _ _⟩
        have HXB : Hid (Below w10.heap.size w10 X) := by rw [hX]; exact bel_alloc (Below.refl _ _) _
        have HBX := hideF (bel_then HB10.out HXB.out)
        have HCX : Hid (∀ j x, ((left ws jj).map fun x => ((x : Nat) : Int))[j]? = some x → X.cell? ⟨gl, j, none⟩ = some (.int .i64 x)) := fun j x hj => ((bcell HXB.out).1 gl j hgl).trans (HCL.out j x hj)
        have hglq : gl ≠ gq := by omega
        have hglX : gl < X.heap.size := Nat.lt_of_lt_of_le hgl HXB.out.size
        have hwX : w.heap.size ≤ X.heap.size := HBX.out.size
        have hgqw : w.heap.size ≤ gq := by rw [hgq]; exact HB10.out.size
        have HVX : Hid (∀ j, j < n → ∃ g o, wa = some ⟨g, o, none⟩ ∧ g < w.heap.size ∧ X.cell? ⟨g, o + j, none⟩ = some (.int .i64 (vs j)) ∧ -9223372036854775808 ≤ vs j ∧ vs j ≤ 9223372036854775807) := fun j hj => by
          obtain ⟨g, o, h1, h2, h3, h4⟩ := HV.out j hj
          exact ⟨g, o, h1, h2, ((bcell HBX.out).1 g (o + j) h2).trans h3, h4⟩
        rw [← hX, ← hgq]
        clear hX hgq HCL HB10 HXB hgl
        go_wp2_with fail
        go_loopw [35, 37, 38] (fun fo i sm wr => ∃ (k : Nat) (fb : Bool), k ≤ N + 1 ∧ i = .int .i64 (k : Nat) ∧ fo = .bool fb ∧ (jj < k → fb = true) ∧ CIn X wr gq ws (min k n)) (fun _ i _ _ => 202 - (intOf i).toNat)
        case atStart => exact ⟨0, false, by omega, rfl, rfl, by omega, by rw [Nat.zero_min]; exact HC0.out⟩
        case round =>
          obtain ⟨k, fb, hk, rfl, rfl, hfb, hC⟩ := hrel
          by_cases hlt : k ≤ N
          · have hkn : k ≤ n := by omega
            have hk2 : k ≤ 200 := by omega
            rw [Nat.min_eq_left hkn] at hC
            have HFB := hideF hfb
            have HC := hideF hC
            have hg1 : Hid (∀ j x, ((left ws jj).map fun x => ((x : Nat) : Int))[j]? = some x → wr.cell? ⟨gl, j, none⟩ = some (.int .i64 x)) := fun j x hj => (hC.chg.cell hglX hglq).trans (HCX.out j x hj)
            have hg2 : Hid (∀ j x, ((left ws k).map fun x => ((x : Nat) : Int))[j]? = some x → wr.cell? ⟨gq, j, none⟩ = some (.int .i64 x)) := fun j x hj => by rw [cell_of_row _ _ _ _ _ _ hC.row]; exact leftC_at ws k j x hj
            clear hC hfb
            have hwk := HWL.out k
            by_cases htk : s.told ≤ k
            · cases fb
              all_goals
                go_wp2_with fail
                refine (same_any wr 8 gl gq k10 8 _ _ (by rw [List.length_map, left_len]) (by rw [List.length_map, left_len]) hg1.out hg2.out (by omega)).mono ?_
                rintro e w11 ⟨sb, rfl, hsb, nd, rfl⟩
                have HSB := hideF hsb
                clear hsb
                by_cases hkn' : k < n
                · obtain ⟨g, o, rfl, hg, hcell, hv1, hv2⟩ := HVX.out k hkn'
                  obtain ⟨V, hV⟩ : ∃ V, V = wr.drewN nd := ⟨_, rfl⟩
                  have hcr : V.cell? ⟨g, o + k, none⟩ = some (.int .i64 (vs k)) := by rw [hV]; exact (HC.out.chg.drewN nd).cell (by omega) (by omega) |>.trans hcell
                  have HCV : Hid (CIn X V gq ws k) := by rw [hV]; exact HC.out.drewN nd
                  obtain ⟨ov, hov⟩ := leftC_old ws k (ws k) hwk
                  have hoc : V.cell? ⟨gq, ws k, none⟩ = some ov := by rw [cell_of_row _ _ _ _ _ _ HCV.out.row]; exact hov
                  have hfz : ∀ j, V.frozen? ⟨gq, j, none⟩ = false := fun j => frozen_of_row _ _ _ _ _ HCV.out.row
                  rw [← hV]
                  clear hV hcell hov
                  go_wp2_with fail
                  refine (pick_any (vs k) 8 _ hv1 hv2 (by omega) (by omega)).mono ?_
                  rintro e w2 ⟨rfl, hw2⟩
                  rw [hw2, HWE.out k]
                  clear hw2 w2
                  go_wp2_with fail
                  go_roundw
                  case rel => exact ⟨k + 1, _, by omega, by go_num, rfl, fun hj => by first | rfl | exact HSB.out (by rw [show jj = k by rcases Nat.lt_or_ge jj k with h | h; exact absurd (HFB.out h) (by decide); omega]), by rw [Nat.min_eq_left hkn']; exact HCV.out.set⟩
                  case measure => simp [intOf]; omega
                · go_wp2_with fail
                  go_roundw
                  case rel => exact ⟨k + 1, _, by omega, by go_num, rfl, fun hj => by first | rfl | exact HSB.out (by rw [show jj = k by rcases Nat.lt_or_ge jj k with h | h; exact absurd (HFB.out h) (by decide); omega]), by rw [show min (k + 1) n = k by omega]; exact HC.out.drewN nd⟩
                  case measure => simp [intOf]; omega
            · by_cases hkn' : k < n
              · obtain ⟨g, o, rfl, hg, hcell, hv1, hv2⟩ := HVX.out k hkn'
                have hcr : wr.cell? ⟨g, o + k, none⟩ = some (.int .i64 (vs k)) := (HC.out.chg.cell (by omega) (by omega)).trans hcell
                obtain ⟨ov, hov⟩ := leftC_old ws k (ws k) hwk
                have hoc : wr.cell? ⟨gq, ws k, none⟩ = some ov := by rw [cell_of_row _ _ _ _ _ _ HC.out.row]; exact hov
                have hfz : ∀ j, wr.frozen? ⟨gq, j, none⟩ = false := fun j => frozen_of_row _ _ _ _ _ HC.out.row
                clear hcell hov
                go_wp2_with fail
                refine (pick_any (vs k) 8 _ hv1 hv2 (by omega) (by omega)).mono ?_
                rintro e w2 ⟨rfl, hw2⟩
                rw [hw2, HWE.out k]
                clear hw2 w2
                go_wp2_with fail
                go_roundw
                case rel => exact ⟨k + 1, fb, by omega, by go_num, rfl, fun hj => HFB.out (by omega), by rw [Nat.min_eq_left hkn']; exact HC.out.set⟩
                case measure => simp [intOf]; omega
              · exfalso
                omega
          · obtain rfl : k = N + 1 := by omega
            obtain rfl : fb = true := hfb (by omega)
            have HBZ : Hid (Below w.heap.size w wr) := HBX.out.trans ⟨hC.chg.os, hC.chg.tape, hC.chg.output, hC.chg.size, fun k hk => hC.chg.block k (by omega) (by omega)⟩
            have hmle : m ≤ A.length := by omega
            have HFU := HFULL.out
            have HNO := HNE.out
            clear hfb hC HFULL HNE
            by_cases hn2 : n ≤ 200
            · obtain rfl : N = n := by omega
              by_cases hmA : m = A.length
              · have hto := HFU hmA
                subst hmA
                rw [hto]
                clear HFU HNO hto
                go_wp2
                go_ret
                exact ⟨rfl, HBZ.out⟩
              · have hmI : ((m : Int) == (A.length : Int)) = false := by rw [beq_eq_false_iff_ne]; omega
                clear HFU HNO
                go_wp2
                go_ret
                exact ⟨rfl, HBZ.out⟩
            · obtain rfl : N = 200 := by omega
              by_cases hmA : m = A.length
              · subst hmA
                clear HFU HNO
                go_wp2
                go_ret
                exact ⟨rfl, HBZ.out⟩
              · have hmI : ((m : Int) == (A.length : Int)) = false := by rw [beq_eq_false_iff_ne]; omega
                clear HFU HNO
                go_wp2
                go_ret
                exact ⟨rfl, HBZ.out⟩
end Go.Proofs.YtcpldcojckhapaaGreat
