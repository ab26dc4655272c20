/-
  latchkeep.opened, where no coil is kept and the kept holders fit one sector: what it answers.
-/
import Derived.Test.YtcpldcojckhapaaGreatV1
import Derived.Test.YtcpldcojckhapaaGreatJ15
set_option maxRecDepth 100000
namespace Go.Proofs.YtcpldcojckhapaaGreat
open Go.RowKit

theorem blank_byt (k : Nat) : Pl.byt blank64 k = 0 := by
  rw [byt_listQ, blank64_list, List.getD_eq_getElem?_getD, List.getElem?_replicate]
  split <;> rfl
theorem own_two {w : World} {B : Nat} {v : Value} {x y : Value} (h : w.ownsRow B 9 1 v 2 [x, y]) : ∃ g c, v = .slice (some ⟨g, 0, none⟩) 2 c ∧ 2 ≤ c ∧ g < w.heap.size ∧ w.cell? ⟨g, 0, none⟩ = some x ∧ w.cell? ⟨g, 1, none⟩ = some y := by
  obtain ⟨a, c, rfl, hat⟩ := own_view h
  obtain ⟨g, rfl, hg, hc⟩ := hat 0 (by omega)
  refine ⟨g, c, rfl, ?_, hg, by rw [hc 0 (by omega)]; rfl, by rw [hc 1 (by omega)]; rfl⟩
  rcases h.2 with h0 | ⟨g', cap, cur, hv, hb, hh, h1, h2, h3, h4⟩
  · simp at h0
  · simp only [Value.slice.injEq] at hv
    omega

theorem DevIn.below {w w' : World} {d L S : Nat} {E : Nat → Nat} {wv : Value} {D : Dev} (h : DevIn w d L S E wv D) (hb : Below w.heap.size w w') : DevIn w' d L S E wv D :=
  ⟨(hb.block d (lt_of_block h.dev)).trans h.dev, h.lines.below hb h.lines.lt, fun i hi => (h.ent i hi).below hb (h.ent i hi).lt, h.inj, (hb.block S (lt_of_block h.store)).trans h.store, ownsRow_below h.wait hb, h.lo⟩
theorem DevAt.below {w w' : World} {d : Nat} {D : Dev} (h : DevAt w d D) (hb : Below w.heap.size w w') : DevAt w' d D := by
  obtain ⟨L, S, E, wv, h⟩ := h
  exact ⟨L, S, E, wv, h.below hb⟩

theorem DevAt.rebase {w : World} {d : Nat} {s0 s1 s2 s3 h u n b : Nat} {kn : Nat → Nat} {B B' : Nat} (hD : DevAt w d (dev0 s0 s1 s2 s3 h u n b kn B)) (hB : B' ≤ B) : DevAt w d (dev0 s0 s1 s2 s3 h u n b kn B') := by
  obtain ⟨L, S, E, wv, hd⟩ := hD
  have hlo : B ≤ d ∧ B ≤ L ∧ B ≤ S ∧ ∀ i, i < 4 → B ≤ E i := hd.lo
  exact ⟨L, S, E, wv, hd.dev, hd.lines, hd.ent, hd.inj, hd.store, own_base hd.wait hB, Nat.le_trans hB hlo.1, Nat.le_trans hB hlo.2.1, Nat.le_trans hB hlo.2.2.1, fun i hi => Nat.le_trans hB (hlo.2.2.2 i hi)⟩
set_option maxRecDepth 100000 in
set_option maxHeartbeats 2000000 in
theorem opened_at (s0 s1 s2 s3 c h u n k b g : Nat) (kn : Nat → Nat) (w : World) (b0 : s0 ≤ 60) (b1 : s1 ≤ 60) (b2 : s2 ≤ 60) (b3 : s3 ≤ 60) (hc : c = 0) (bh : h ≤ s2) (bh2 : 2 * h ≤ 62) (bu1 : 1 ≤ u) (bu2 : u ≤ 247) (bn1 : 1 ≤ n) (bn2 : n ≤ 4) (bb1 : 1 ≤ b) (bb2 : b ≤ 8)
    (hg : g < w.heap.size) (hcell : ∀ j, j < n → w.cell? ⟨g, j, none⟩ = some (.int .i64 (kn j : Nat))) (hk : ∀ j, j < n → kn j ≤ 1) :
    Calls Tryz.prog 19 #[.agg #[.int .i64 (s0 : Nat), .int .i64 (s1 : Nat), .int .i64 (s2 : Nat), .int .i64 (s3 : Nat), .int .i64 (c : Nat), .int .i64 (h : Nat), .int .i64 (u : Nat), .slice (some ⟨g, 0, none⟩) n k, .int .i64 (b : Nat)]] w fun e w' => 
      ∃ d v, e = .returned (.tuple #[.pointer (some ⟨d, 0, none⟩), v, .slice none 0 0]) ∧ DevAt w' d (dev0 s0 s1 s2 s3 h u n b kn w.heap.size) ∧ w'.ownsRow w.heap.size 9 1 v 2 [.string blank64, .string blank64] ∧ Below w.heap.size w w' := by
  obtain ⟨W, hW, hWs, hWb, hWg⟩ := cfg_new w s0 s1 s2 s3 c h u b (.slice (some ⟨g, 0, none⟩) n k)
  obtain ⟨i0, hi, hz0, hz1, hz2⟩ := info_parts Tryz.infoET
  have hcc : c ≤ s0 := by omega
  have HND : Hid (2 = 2 * max 1 (((c + 7) / 8 + 2 * h + 61) / 62)) := by show 2 = _; omega
  have HC0 := hideF hc
  clear hc
  have hcW : ∀ j, j < n → W.cell? ⟨g, j, none⟩ = some (.int .i64 (kn j : Nat)) := fun j hj => by rw [(bcell hWb).1 g j hg]; exact hcell j hj
  have HCW := hideF hcW
  have HGW := hideF hWg
  have HBW := hideF hWb
  obtain ⟨c0, c1, c2, c3, c4, c5, c6, c7, c8⟩ := cells9 hWg
  have hmk : ∀ W : World, (Instr.makeSlice 114 (.int .i64 64) (.int .i64 64)).run Tryz.prog W = .ok (.slice (some ⟨W.heap.size, 0, none⟩) 64 64) (W.alloc (.cells (madeCells #[.int .u8 0] 64) 5)) := fun W => made_bytesQ 64 (by omega) W
  have hcv : ∀ W : World, (convert 114 9 (.slice (some ⟨W.heap.size, 0, none⟩) 64 64)).run Tryz.prog (W.alloc (.cells (madeCells #[.int .u8 0] 64) 5)) = .ok (.string blank64) (W.alloc (.cells (madeCells #[.int .u8 0] 64) 5)) := fun W => 
    conv_row _ W.heap.size 64 64 (List.replicate 64 0) (by simp) (fun j x hj => by
      rw [List.getElem?_replicate] at hj
      split at hj
      · rename_i hlt
        obtain rfl := (Option.some.inj hj).symm
        rw [cell_of_row _ W.heap.size j _ 5 (0, 0) (heap_alloc_new W _)]
        exact madeBytes_at 64 j hlt
      · simp at hj)
  clear hcell hWg hWb hcW
  go_enter Tryz.func19, Tryz.ntmps19
  go_wp2_with fail
  rw [← hW]
  clear hW
  refine (need_at s0 s1 s2 s3 c h u n k b g 2 kn W b0 b1 b2 b3 hcc bh bu1 bu2 bn1 bn2 bb1 bb2 (by omega) HCW.out hk HND.out).mono ?_
  rintro e w1 ⟨rfl, hb1⟩
  have HB1 := hideF hb1
  have hs1 := hb1.size
  clear hb1 c0 c1 c2 c3 c4 c5 c6 c7 c8
  go_wp2_with fail
  go_loopw [8, 7] (fun i o wr => ∃ q : Nat, q ≤ 2 ∧ i = .int .i64 (q : Nat) ∧ wr.ownsRow w1.heap.size 9 1 o q (List.replicate q (.string blank64)) ∧ Below w1.heap.size w1 wr) (fun i _ _ => 2 - (intOf i).toNat)
  case atStart => exact ⟨0, by omega, rfl, World.ownsRow_nil _ _ _ _, Below.refl _ _⟩
  case round =>
    obtain ⟨q, hq, rfl, hown, hb⟩ := hrel
    have hsb := hb.size
    by_cases hlt : q < 2
    · go_wp2_with (at_builtin; refine wpList_append_own _ rfl (.tmp 33) (.tmp 36) 30 rfl w1.heap.size 9 i0 (.string ⟨#[]⟩) 1 16 Tryz.underlying30 hi hz0 hz1 hz2 rfl (by decide) u7 q _ rfl ((hown.alloc _).alloc _) ⟨wr.heap.size + 1, 0, none⟩ 1 1 [.string blank64] rfl rfl (by have := cell_one_new (wr.alloc (.cells (madeCells #[.int .u8 0] 64) 5)) (.string blank64) 9; simpa using this) (by intro u hu; simp at hu; subst hu; rfl) (by unfold maxLen; omega) (by omega) (by simp; omega) ?_; intro v' w3 hown3 hgrow3 _)
      go_roundw
      case rel =>
        refine ⟨q + 1, by omega, by go_num, ?_, ?_⟩
        · rw [List.replicate_succ']; exact hown3
        · exact ((hb.alloc hb.size _).alloc (by simp; omega) _).grown hgrow3 (by simp; omega) (fun k hk => (hown.lt k hk).1)
      case measure => simp [intOf]; omega
    · obtain rfl : q = 2 := by omega
      have hown2 : wr.ownsRow w1.heap.size 9 1 u7 2 [.string blank64, .string blank64] := hown
      obtain ⟨gd, cd, rfl, hcd, hgd, hd0, hd1⟩ := own_two hown2
      have HOW := hideF hown2
      have HB := hideF hb
      clear hown hown2 hb
      go_wp2_with (at_builtin; refine wpList_append_own _ rfl (.tmp 38) (.tmp 39) 30 rfl wr.heap.size 9 i0 (.string ⟨#[]⟩) 1 16 Tryz.underlying30 hi hz0 hz1 hz2 rfl (by decide) (.slice none 0 0) 0 [] rfl (World.ownsRow_nil _ _ _ _) ⟨gd, 0, none⟩ 2 cd [.string blank64, .string blank64] rfl rfl (by intro j u hj; match j, hj with | 0, hj => (simp at hj; subst hj; simpa [Addr.add] using hd0) | 1, hj => (simp at hj; subst hj; simpa [Addr.add] using hd1)) (by intro u hu; simp at hu; subst hu; rfl) (by unfold maxLen; omega) (by omega) (by omega) ?_; intro v' w3 hown3 hgrow3 _; have hB3 : Below wr.heap.size wr w3 := (Below.refl _ _).grown hgrow3 (Nat.le_refl _) (fun k hk => by simp [Value.ownBlock] at hk); have hg3 := (hB3.block w.heap.size (by omega)).trans ((HB.out.block w.heap.size (by omega)).trans ((HB1.out.block w.heap.size (by omega)).trans HGW.out)); obtain ⟨p0, p1, p2, p3, p4, p5, p6, p7, p8⟩ := cells9 hg3; obtain ⟨g2, k2, rfl, hk2, hg2, q0, q1⟩ := own_two hown3)
      have HB3 := hideF (bel_then (bel_then HB1.out HB.out) hB3)
      have hsB3 := hB3.size
      have HOD := hideF (own_same HOW.out (fun g hg => hB3.block g (by obtain ⟨cur, hcur⟩ := own_block HOW.out g hg; exact lt_of_block hcur)))
      clear hown3 hgrow3 hB3 hg3
      refine (open_blank s0 s1 s2 s3 c h u n k b g g2 k2 kn blank64 blank64 w3 b0 b1 b2 b3 HC0.out bh bh2 bu1 bu2 bn1 bn2 bb1 bb2 (by omega) (fun j hj => by rw [(bcell HB3.out).1 g j (by omega)]; exact HCW.out j hj) hk hk2 hg2 q0 q1 blank64_size blank64_size (by decide +kernel) (by decide +kernel) (blank_byt 63) (blank_byt 63)).mono ?_
      rintro e w4 ⟨d, rfl, hdev, hb4⟩
      have HDEV := hideF (DevAt.rebase (B' := w.heap.size) hdev (by omega))
      have HB4 := hideF (bel_then HB3.out hb4)
      have HOD4 := hideF (own_same HOD.out (fun g hg => hb4.block g (by obtain ⟨cur, hcur⟩ := own_block HOD.out g hg; exact lt_of_block hcur)))
      clear hdev hb4 p0 p1 p2 p3 p4 p5 p6 p7 p8 q0 q1
      go_wp2_with fail
      refine (sends_any [] (.slice none 0 0) 0 w4 (by simp) (World.ownsRow_nil _ _ _ _)).mono ?_
      rintro e w5 ⟨u, rfl, hu, hb5⟩
      obtain ⟨ua, uc, rfl, _⟩ := own_view hu
      have HB5 := hideF (bel_then (bel_then HBW.out HB4.out) hb5)
      have HDE5 := hideF (DevAt.below HDEV.out hb5)
      have HOD5 := hideF (own_same HOD4.out (fun g hg => hb5.block g (by obtain ⟨cur, hcur⟩ := own_block HOD4.out g hg; exact lt_of_block hcur)))
      clear hu hb5
      go_wp2
      refine bodyPost_ret (v := .tuple #[.pointer (some ⟨d, 0, none⟩), .slice (some ⟨gd, 0, none⟩) 2 cd, .slice none 0 0]) (by simp [results, Tryz.results19, go_sem]) rfl ⟨_, _, rfl, HDE5.out, own_base HOD5.out (by omega), HB5.out⟩
end Go.Proofs.YtcpldcojckhapaaGreat
