/-
  Flush, where no coil is kept and some answer waits: what it does.
-/
import Derived.Test.YtcpldcojckhapaaGreatQ7
import Derived.Test.YtcpldcojckhapaaGreatJ29
set_option maxRecDepth 100000
namespace Go.Proofs.YtcpldcojckhapaaGreat
open Go.RowKit

theorem enter59 (x y : Value) (w : World) : (callFunc 58 #[x, y]).run Tryz.prog w = .ok (.enter 58 #[x, y]) w := by kernel_rfl
theorem enter60 (x : Value) (w : World) : (callFunc 59 #[x]).run Tryz.prog w = .ok (.enter 59 #[x]) w := by kernel_rfl
theorem DevIn.saved {w w' : World} {d L S : Nat} {E : Nat → Nat} {wv : Value} {D : Dev} {lat st : Nat} (h : DevIn w d L S E wv D) (hc : Chg1 S w w') (hS : w'.heap[S]? = some (.cells #[.int .i64 (D.sec : Nat), .int .i64 (lat : Nat), .int .u8 (st : Nat)] 155 (0, 0))) : DevIn w' d L S E wv { D with lat := lat, stamp := st } := by
  obtain ⟨cl, hcl⟩ := h.lines.block
  refine ⟨(hc.block d (lt_of_block h.dev) (ne_of_types h.dev h.store (by decide))).trans h.dev, h.lines.same (hc.block L (lt_of_block hcl) (ne_of_types hcl h.store (by decide))), fun i hi => ?_, h.inj, hS, own_same h.wait (fun g hg => ?_), h.lo⟩
  · obtain ⟨ce, hce⟩ := (h.ent i hi).block
    exact (h.ent i hi).same (hc.block (E i) (lt_of_block hce) (ne_of_types hce h.store (by decide)))
  · obtain ⟨cg, hcg⟩ := own_block h.wait g hg
    exact hc.block g (lt_of_block hcg) (ne_of_types hcg h.store (by decide))
theorem saveA_len (sec lat st : Nat) (d : ByteArray) : (saveA sec lat st d).length = sec + 1 := by simp [saveA]
set_option maxRecDepth 100000 in
set_option maxHeartbeats 2000000 in
theorem flush_any (d L S lat' st' : Nat) (E : Nat → Nat) (wv : Value) (D : Dev) (l : List Nat) (R : List (Int × Int × ByteArray) → List (Int × Int × ByteArray) → Prop) (hR : ∀ h s, R h s → h.length = s.length) (hP : Pops D.base d R) (s : List (Int × Int × ByteArray)) (w : World) (h : DevIn w d L S E wv D) (hu : 0 < D.uns) (hk0 : D.kp 0 = 0) (hk2 : D.kp 2 ≤ D.sz 2) (hs2 : D.sz 2 ≤ 1000) (hl : l.length = D.kp 2) (h16 : ∀ x ∈ l, x < 65536) (hv : ∀ j x, l[j]? = some x → D.ent 2 j = (x : Nat))
    (hsec : D.sec ≤ 64) (hfit : ∀ i, i < D.sec → i * 62 ≤ 2 * D.kp 2) (hlat : D.lat ≤ 1) (hst : D.stamp ≤ 3) (hl' : lat' = (D.lat + 1) % 2) (hs' : st' = D.stamp % 3 + 1) (hrs : R D.wait s) (hsl : s.length ≤ 1000) (hs0 : 0 < s.length) :
    Calls Tryz.prog 24 #[.pointer (some ⟨d, 0, none⟩)] w fun e w' => ∃ v, e = .returned v ∧ w'.ownsRow w.heap.size 77 4 v (D.sec + 1 + s.length) ((saveA D.sec lat' st' (wordsB l) ++ s.map sendOf).flatMap encA) ∧ DevIn w' d L S E (.slice none 0 0) { D with lat := lat', stamp := st', uns := 0, wait := [] } ∧ FtT D.base devT w w' := by
  obtain ⟨i0, hi, hz0, hz1, hz2⟩ := info_parts Tryz.infoEA
  obtain ⟨c0, c1, c2, c11, c12, c13, c14, cf, hdl⟩ := h.cells
  have hu' : ((D.uns : Int) == 0) = false := by rw [beq_eq_false_iff_ne]; omega
  have hE2 := (h.ent 2 (by omega)).lt
  have HK : Hid (Calls Tryz.prog 59 #[.pointer (some ⟨d, 3, none⟩)] w.drew fun e w' => ∃ v, e = .returned v ∧ (v = .string (wordsB l) ∧ Below w.drew.heap.size w.drew w')) := by
    have hD := h.drewN 1
    refine (kept_any l d (E 0) (E 2) (D.sz 0) (D.sz 2) (D.kp 2) (w.drewN 1) hl hk2 (by omega) h16 hE2 (fun j x hj => ?_) (hD.cellE (i := 0) (by omega)) (hD.cellE (i := 2) (by omega)) (by have := hD.cellK (i := 0) (by omega); rw [hk0] at this; exact this) (hD.cellK (i := 2) (by omega))).mono fun e w' h => ⟨_, h.1, rfl, h.2⟩
    have hjl : j < l.length := (List.getElem?_eq_some_iff.1 hj).1
    have := (hD.ent 2 (by omega)).cell (i := j) (j := 0) (by omega) (by omega)
    rw [Nat.mul_one, Nat.add_zero] at this
    rw [this, hv j x hj]
  have hzl : (wordsB l).size = 2 * D.kp 2 := by
    have e : (wordsB l).size = (wordsI l).length := by simp [wordsB, bytesOf, ByteArray.size]
    rw [e, wordsI_len, hl]
  have HFIT : Hid (∀ i, i < D.sec → i * 62 ≤ (wordsB l).size) := fun i hi => by rw [hzl]; exact hfit i hi
  have HZL := hideF hzl
  have HH := hideF h
  have HL := hideF hl'
  have HS := hideF hs'
  have HR := hideF hR
  have HP := hideF hP
  have HRS := hideF hrs
  clear h hv hl' hs' hR hP hrs hfit hzl h16 hl
  go_enter Tryz.func24, Tryz.ntmps24
  go_wp2_with fail
  go_region_law (first
    | (refine step_call rfl 59 #[.tmp 15] #[104] rfl #[.pointer (some ⟨d, 3, none⟩)] (by simp [Act.eval, Act.put]) (enter60 _ _) _ HK.out ?_; rintro vv w1 ⟨rfl, hb1⟩; have hd1 := (HH.out.drewN 1).belowQ hb1; obtain ⟨k0, k1, k2, k11, k12, k13, k14, kf, hdk⟩ := hd1.cells)
    | (refine step_call rfl 58 #[.tmp 12, .tmp 16] #[106, 9] rfl #[.pointer (some ⟨S, 0, none⟩), .string (wordsB l)] (by simp [Act.eval]) (enter59 _ _ _) _ (save_any S D.sec D.lat D.stamp lat' st' (wordsB l) _ hd1.store hsec HFIT.out (by rw [HZL.out]; omega) hlat hst HL.out HS.out) ?_; rintro vv w2 ⟨hown2, hst2, hch2⟩))
  all_goals
    obtain ⟨a2, p2, rfl, _⟩ := own_view hown2
    have hbw1 := below_then_drew1 hb1
    have HD2 := hideF (hd1.saved hch2 hst2)
    have HF2 := hideF ((FtT.of_below (B := D.base) devT hbw1).trans (FtT.chg hch2 hd1.store rfl hd1.lo.2.2.1))
    have HO2 := hideF (own_base (B := w.heap.size) hown2 hbw1.size)
    clear c0 c1 c2 c11 c12 c13 c14 cf k0 k1 k2 k11 k12 k13 k14 kf hown2 hst2 hch2 hd1 hb1 hbw1 HK
    obtain ⟨c0, c1, c2, c11, c12, c13, c14, cf, hd2⟩ := HD2.out.cells
    go_wp2_with fail
    obtain ⟨Y, hY⟩ : ∃ Y, Y = w2.setCell ⟨d, 13, none⟩ (.int .i64 0) := ⟨_, rfl⟩
    have HDY : Hid (DevIn Y d L S E wv { D with lat := lat', stamp := st', uns := 0 }) := by rw [hY]; exact HD2.out.setUns 0
    have HFY : Hid (FtT D.base devT w Y) := by rw [hY]; exact HF2.out.setCell HD2.out.dev rfl HD2.out.lo.1 _ _
    have HOY : Hid (Y.ownsRow w.heap.size 77 4 (.slice a2 (D.sec + 1) p2) (D.sec + 1) ((saveA D.sec lat' st' (wordsB l)).flatMap encA)) := by
      rw [hY]; exact own_same HO2.out (fun g hg => by obtain ⟨cg, hcg⟩ := own_block HO2.out g hg; exact heap_setCell_other w2 ⟨d, 13, none⟩ g _ (ne_of_types hcg HD2.out.dev (by decide)))
    rw [← hY]
    clear hY c0 c1 c2 c11 c12 c13 c14 cf HD2 HF2 HO2 hd2
    refine (sendAll_any d R HR.out HP.out _ wv D.wait s Y hsl HRS.out HDY.out.waitIn).mono ?_
    rintro e w3 ⟨v3, rfl, hown3, hw3, hf3⟩
    have HD3 := hideF (HDY.out.ofWait hw3 hf3)
    have HF3 := hideF (HFY.out.trans (hf3.mono wt_dev))
    have HO3 := hideF (own_same (w' := w3) HOY.out (fun g hg => by obtain ⟨cg, hcg⟩ := own_block HOY.out g hg; exact hf3.keep g cg 77 hcg rfl))
    have hsY := HFY.out.size
    have hs3 := HF3.out.size
    obtain ⟨a3, p3, rfl, hat3⟩ := own_view hown3
    obtain ⟨g3, rfl, hg3, hc3⟩ := hat3 0 hs0
    have hln : ((s.map sendOf).flatMap encA).length = s.length * 4 := by rw [flat_len encA 4 (fun _ => rfl), List.length_map]
    have HC3 : Hid (∀ j u, ((s.map sendOf).flatMap encA)[j]? = some u → w3.cell? ((⟨g3, 0, none⟩ : Addr).add j) = some u) := fun j u hj => by
      have hjl : j < ((s.map sendOf).flatMap encA).length := (List.getElem?_eq_some_iff.1 hj).1
      have e : (⟨g3, 0, none⟩ : Addr).add j = ⟨g3, j, none⟩ := by by_cases h0 : j = 0 <;> simp [Addr.add, h0]
      rw [e, hc3 j (by omega), hj]
    have HLN := hideF hln
    clear hown3 hw3 hf3 hat3 hc3 hln HDY HFY HOY
    go_wp2_with (at_builtin; refine wpList_append_own _ rfl (.tmp 21) (.tmp 25) 31 rfl w.heap.size 77 i0 _ 4 40 Tryz.underlying31 hi hz0 hz1 hz2 rfl (by decide) _ (D.sec + 1) _ rfl HO3.out ⟨g3, 0, none⟩ s.length p3 ((s.map sendOf).flatMap encA) rfl HLN.out HC3.out (encA_one _) (by unfold maxLen; omega) (by omega) (by omega) ?_; intro v' w4 hown4 hgrow4 _; obtain ⟨a4, p4, rfl, _⟩ := own_view hown4)
    go_ret
    refine ⟨_, rfl, ?_, ?_, HF3.out.grown_new hgrow4 (fun k hk => (HO3.out.lt k hk).1)⟩
    · rw [List.flatMap_append]; exact hown4
    · exact HD3.out.keep ((FtT.refl (B := 0) (fun t => t == 77) w3).grown hgrow4 (fun k hk => ⟨Nat.zero_le _, own_block HO3.out k hk⟩) rfl) rfl rfl rfl rfl rfl
end Go.Proofs.YtcpldcojckhapaaGreat
