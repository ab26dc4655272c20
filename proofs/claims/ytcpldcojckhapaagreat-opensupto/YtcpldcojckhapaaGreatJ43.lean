/-
  
-/
import Derived.Test.YtcpldcojckhapaaGreatJ38
import Derived.Test.YtcpldcojckhapaaGreatJ41
import Derived.Test.YtcpldcojckhapaaGreatS3
set_option maxRecDepth 100000
namespace Go.Proofs.YtcpldcojckhapaaGreat
open Go.RowKit
theorem run_skip {n i : Nat} (h : n <= i) (W W' : List (Int × Int × ByteArray)) (A A' : List (Int × Int × Int × ByteArray)) (s : Ls) : runL (n - i) W A s = runL (n - (i + 1)) W' A' s := by
  rw [show n - i = 0 by omega, show n - (i + 1) = 0 by omega]
  simp [runL]
theorem run_write {n i : Nat} (h : i < n) (W : List (Int × Int × ByteArray)) (A : List (Int × Int × Int × ByteArray)) (q : Int) (x : ByteArray) (s : Ls) : runL (n - i) W ((0, q, 0, x) :: A) s = runL (n - (i + 1)) W A { s with wet := s.wet ++ [(0, q, 0, x)] } := by
  rw [show n - i = (n - (i + 1)) + 1 by omega, runL, if_pos rfl]
theorem run_sync {n i : Nat} (h : i < n) (W : List (Int × Int × ByteArray)) (A : List (Int × Int × Int × ByteArray)) (s : Ls) : runL (n - i) W ((1, 0, 0, ⟨#[]⟩) :: A) s = runL (n - (i + 1)) W A (syncL s) := by
  rw [show n - i = (n - (i + 1)) + 1 by omega, runL, if_neg (by decide), if_pos rfl]
theorem run_send {n i : Nat} (h : i < n) (W : List (Int × Int × ByteArray)) (A : List (Int × Int × Int × ByteArray)) (x : Int × Int × ByteArray) (s : Ls) : runL (n - i) (x :: W) (sendOf x :: A) s = runL (n - (i + 1)) W A { s with least := max s.least x.1.toNat } := by
  have e0 : (sendOf x).1 = 2 := rfl
  rw [show n - i = (n - (i + 1)) + 1 by omega, runL, if_neg (by rw [e0]; decide), if_neg (by rw [e0]; decide)]
  rfl
theorem drop_at {α : Type} {l : List α} {i : Nat} {a : α} {t : List α} (h : l.drop i = a :: t) : l[i]? = some a /\ l.drop (i + 1) = t := by
  refine ⟨?_, ?_⟩
  . have := List.getElem?_drop (xs := l) (i := i) (j := 0)
    rw [h, Nat.add_zero] at this
    exact this.symm
  . rw [<- List.drop_drop, h]; rfl
structure ActsAt (w wr : World) (B : Nat) (c : Nat -> Nat) (q : Plc) (D : Dev) (s : Ls) (nd n : Nat) (lv sv : Value) (C1 C2 : Nat) (A : List (Int × Int × Int × ByteArray)) (W : List (Int × Int × ByteArray)) (i k : Nat) (s1 : Ls) (v : Value) (c1 : Nat -> Nat) : Prop where
  rg : RigIn wr B c1 { q with wt := v } D s1 nd
  il : i <= A.length
  kl : k <= W.length
  ck : Chk nd (W.drop k) (A.drop i)
  rn : runL (n - i) (W.drop k) (A.drop i) s1 = runL n W A s
  wr' : ∀ a ∈ s1.wet, ∃ (j : Nat) (x : ByteArray), a = (0, (j : Int), 0, x) /\ j < nd /\ x.size = 64
  wl : s1.wet.length <= s.wet.length + i
  al : wr.ownsRow C1 77 4 lv A.length (A.flatMap encA)
  wl2 : wr.ownsRow C2 113 3 sv W.length (W.flatMap encW)
  ca : ∀ g, lv.ownBlock = some g -> c1 g ≠ 7
  cs : ∀ g, sv.ownBlock = some g -> c1 g ≠ 7
  ag : Agr w c c1
  fc : Fc c 7 w wr
  ls : s1.least <= 1000000000
section
variable {w wr w' : World} {B : Nat} {c : Nat -> Nat} {q : Plc} {D : Dev} {s : Ls} {nd n : Nat} {lv sv : Value} {C1 C2 : Nat} {A : List (Int × Int × Int × ByteArray)} {W : List (Int × Int × ByteArray)} {i k : Nat} {s1 : Ls} {v : Value} {c1 : Nat -> Nat}
theorem ActsAt.next (h : ActsAt w wr B c q D s nd n lv sv C1 C2 A W i k s1 v c1) {s2 : Ls} {v2 : Value} {c2 : Nat -> Nat} {k2 : Nat} (hf : Fc c1 7 wr w') (ha : Agr wr c1 c2) (rg : RigIn w' B c2 { q with wt := v2 } D s2 nd) (il : i + 1 <= A.length) (kl : k2 <= W.length) (ck : Chk nd (W.drop k2) (A.drop (i + 1))) (rn : runL (n - (i + 1)) (W.drop k2) (A.drop (i + 1)) s2 = runL n W A s) (wt : ∀ a ∈ s2.wet, ∃ (j : Nat) (x : ByteArray), a = (0, (j : Int), 0, x) /\ j < nd /\ x.size = 64) (wl : s2.wet.length <= s.wet.length + (i + 1)) (ls : s2.least <= 1000000000) :
    ActsAt w w' B c q D s nd n lv sv C1 C2 A W (i + 1) k2 s2 v2 c2 :=
  ⟨rg, il, kl, ck, rn, wt, wl, hf.own h.al (by decide) (fun g hg => h.ca g hg), hf.own h.wl2 (by decide) (fun g hg => h.cs g hg), fun g hg => by rw [ha g (h.al.lt g hg).2]; exact h.ca g hg, fun g hg => by rw [ha g (h.wl2.lt g hg).2]; exact h.cs g hg, h.ag.trans ha h.fc.size, h.fc.trans hf h.ag, ls⟩
end
set_option maxHeartbeats 8000000 in
theorem acts_any (w : World) (B : Nat) (c : Nat -> Nat) (q : Plc) (D : Dev) (s : Ls) (nd n : Nat) (lv sv : Value) (C1 C2 : Nat) (A : List (Int × Int × Int × ByteArray)) (W : List (Int × Int × ByteArray)) (h : RigIn w B c q D s nd) (hnd : 0 < nd /\ nd <= 64) (hl : w.ownsRow C1 77 4 lv A.length (A.flatMap encA)) (hs : w.ownsRow C2 113 3 sv W.length (W.flatMap encW))
    (hca : ∀ g, lv.ownBlock = some g -> c g ≠ 7) (hcs : ∀ g, sv.ownBlock = some g -> c g ≠ 7) (hk : Chk nd W A) (hA : A.length <= 1000000) (hWl : W.length <= 1000000) (hw : s.wet = []) (hls : s.least <= 1000000000) (hW : ∀ x ∈ W, 0 <= x.1 /\ x.1 <= 1000000000) :
    Calls Tryz.prog 17 #[.pointer (some ⟨q.g, 0, none⟩), lv, sv, .int .i64 (n : Nat)] w fun e w' => e = .returned (.bool true) /\ ∃ v c', RigIn w' B c' { q with wt := v } D (runL n W A s) nd /\ Agr w c c' /\ Fc c 7 w w' := by
  obtain ⟨i0, ji, jz0, jz1, jz2⟩ := info_parts Tryz.infoEA
  have HST : Hid (ActsAt w w B c q D s nd n lv sv C1 C2 A W 0 0 s q.wt c) := ⟨h, Nat.zero_le _, Nat.zero_le _, hk, rfl, by rw [hw]; simp, by omega, hl, hs, hca, hcs, Agr.refl _ _, Fc.refl _ _ _, hls⟩
  obtain ⟨al, ak, rfl, _⟩ := own_view hl
  obtain ⟨sl, sk, rfl, _⟩ := own_view hs
  have HW := hideF hW
  have HWE := hideF hw
  clear h hl hs hca hcs hk hW hls hw
  go_enter Tryz.func17, Tryz.ntmps17
  go_wp2_with fail
  go_loopw [10, 9, 11, 12, 25, 64, 115] (fun ii kk _ _ _ _ _ wr => ∃ (i k : Nat) (s1 : Ls) (v : Value) (c1 : Nat -> Nat), ii = .int .i64 (i : Nat) /\ kk = .int .i64 (k : Nat) /\ ActsAt w wr B c q D s nd n (.slice al A.length ak) (.slice sl W.length sk) C1 C2 A W i k s1 v c1) (fun ii _ _ _ _ _ _ _ => A.length - (intOf ii).toNat)
  case atStart => exact ⟨0, 0, s, q.wt, c, rfl, rfl, HST.out⟩
  case round =>
    obtain ⟨i, k, s1, v, c1, rfl, rfl, hst⟩ := hrel
    by_cases hlt : i < A.length
    . obtain ⟨a, hai⟩ : ∃ a, A[i]? = some a := ⟨_, List.getElem?_eq_getElem hlt⟩
      have hdr : A.drop i = a :: A.drop (i + 1) := by rw [List.drop_eq_getElem_cons hlt, (List.getElem?_eq_some_iff.1 hai).2]
      obtain ⟨ga, rfl, hga, a0, a1, a2, a3⟩ := acts_at hst.al i a hai
      have hck := hst.ck
      have hrn := hst.rn
      rw [hdr] at hck hrn
      obtain ⟨W', hW'⟩ : ∃ W', W' = W.drop k := ⟨_, rfl⟩
      rw [<- hW'] at hck hrn
      have hrg := hst.rg
      obtain ⟨_, _, r11, r12, r13, rf, hgl⟩ := hrg.cells
      obtain ⟨gd, dcap, hdv, hgd, hgd7, hdc, hdf⟩ := hrg.disk hnd.1
      rw [hdv] at r11
      have HVW := hideF (own_view hrg.wet)
      have HRG := hideF hrg
      have HS := hideF hst
      have HIL : Hid (i + 1 <= A.length) := hlt
      have hwl := hst.wl
      rw [HWE.out, List.length_nil] at hwl
      have HW9 : Hid (wrap64 ((i : Int) + 1) = ((i + 1 : Nat) : Int)) := by show _ = _; simp only [wrap64]; omega
      clear hst hrg hdr
      cases hck with
      | write j x hj hx hck' =>
        obtain ⟨X, hX⟩ : ∃ X, X = wr.alloc (.cells #[.int .u8 0, .int .i64 (j : Nat), .int .i64 0, .string x] 77) := ⟨_, rfl⟩
        have hXb : Below wr.heap.size wr X := by rw [hX]; exact bel_alloc (Below.refl _ _) _
        have g1 : decide ((j : Int) < 0) = false := by simp
        have g2 : decide (nd <= j) = false := by simp; omega
        have HXB := hideF hXb
        have HCK := hideF hck'
        have HRN := hideF hrn
        have HHX := hideF hx
        clear hck' hrn hXb
        by_cases hin : i < n
        . have hinI : (i : Int) < (n : Int) := by omega
          have HIN := hideF hin
          clear hin
          go_wp2_with fail
          go_quiet (fail)
          go_upto_region 12 with fail
          rw [<- hX]
          have hXs : X.heap.size = wr.heap.size + 1 := by rw [hX]; simp
          have hXg : X.heap[wr.heap.size]? = some (.cells #[.int .u8 0, .int .i64 (j : Nat), .int .i64 0, .string x] 77 (0, 0)) := by rw [hX]; exact heap_alloc_new wr _
          obtain ⟨Y, hY⟩ : ∃ Y, Y = X.drewN nq := ⟨_, rfl⟩
          have hYb : Below wr.heap.size wr Y := by rw [hY]; exact below_drewN HXB.out nq
          have hYs : Y.heap.size = wr.heap.size + 1 := by rw [hY]; exact hXs
          have hYg : Y.heap[wr.heap.size]? = some (.cells #[.int .u8 0, .int .i64 (j : Nat), .int .i64 0, .string x] 77 (0, 0)) := by rw [hY]; exact hXg
          rw [<- hY]
          have hRY : RigIn Y B (colN wr c1 9) { q with wt := v } D s1 nd := HRG.out.frame (k := 9) (Fc.of_below hYb) (colN_agr wr c1 9) (by omega)
          obtain ⟨_, _, _, y12, _, yf, hyl⟩ := hRY.cells
          have y12' : Y.cell? ⟨q.g, 12, none⟩ = some v := y12
          obtain ⟨z0, z1, z2, z3⟩ : Y.cell? ⟨wr.heap.size, 0, none⟩ = some (.int .u8 0) /\ Y.cell? ⟨wr.heap.size, 1, none⟩ = some (.int .i64 (j : Nat)) /\ Y.cell? ⟨wr.heap.size, 2, none⟩ = some (.int .i64 0) /\ Y.cell? ⟨wr.heap.size, 3, none⟩ = some (.string x) := ⟨(cell_of_row _ _ _ _ _ _ hYg).trans rfl, (cell_of_row _ _ _ _ _ _ hYg).trans rfl, (cell_of_row _ _ _ _ _ _ hYg).trans rfl, (cell_of_row _ _ _ _ _ _ hYg).trans rfl⟩
          have HRY := hideF hRY
          have HYB := hideF hYb
          have HWT : Hid (Y.ownsRow B 77 4 v s1.wet.length (s1.wet.flatMap encA)) := hRY.wet
          have HDV : Hid (Y.heap[q.g]? = some (.cells (rigC { q with wt := v } D s1.least) 52 (0, 0))) := hRY.rig
          have hwr : v.ownBlock ≠ some q.g := fun e => by
            obtain ⟨cl, hcl⟩ := own_block HWT.out _ e
            exact ne_types hcl HDV.out (by decide) rfl
          have hBY : B <= Y.heap.size := by have := HRG.out.lo; have : B <= q.g := this; omega
          have hyl' : q.g < Y.heap.size := hyl
          have HYS := hideF hYs
          clear hRY hYb hXg hYg y12 hX hY r11 r12 r13 rf hdc hdf a0 a1 a2 a3 hYs hXs
          go_region_law (first
            | (refine step_append_keep rfl (.tmp 58) (.tmp 60) 31 rfl B 77 i0 _ 4 40 Tryz.underlying31 ji jz0 jz1 jz2 rfl (by decide) v s1.wet.length (s1.wet.flatMap encA) rfl ((own_same HWT.out (fun g _ => rfl)).alloc _) ⟨Y.heap.size, 0, none⟩ 1 1 [_, _, _, _] rfl rfl (cell_four_new _ _ _ _ _ _) (by intro u hu; simp at hu; rcases hu with rfl | rfl | rfl | rfl <;> rfl) (by unfold maxLen; omega) (by omega) (by simp; omega) ?_; intro v6 w6 hown6 hgrow6 hfr6; obtain ⟨a6, k6, rfl, _⟩ := own_view hown6; have hd6 := (hgrow6.block q.g (by simp; omega) (fun e => hwr e.symm)).trans ((heap_alloc_old _ _ (by exact hyl')).trans HDV.out); have c12' : w6.cell? ⟨q.g, 12, none⟩ = some v := (by rw [cell_of_row _ _ _ _ _ _ hd6]; rfl); have f6 : ∀ j, w6.frozen? ⟨q.g, j, none⟩ = false := fun j => frozen_of_row _ _ _ _ _ hd6))
          all_goals
            have hXb2 : Below Y.heap.size Y (Y.alloc (.cells #[.int .u8 0, .int .i64 (j : Nat), .int .i64 0, .string x] 77)).drew := (bel_alloc (Below.refl _ _) _).drew
            obtain ⟨hR6, hF6⟩ := HRY.out.wetPut (a := (0, (j : Int), 0, x)) hXb2 hown6 hgrow6 hfr6
            have HR6 := hideF hR6
            have HF6 : Hid (Fc c1 7 wr (w6.setCell ⟨q.g, 12, none⟩ (.slice a6 (s1.wet.length + 1) k6))) := (Fc.of_below HYB.out).trans hF6 (colN_agr wr c1 9)
            clear hR6 hF6 hXb2 hown6 hgrow6 hfr6 hd6 c12' f6
            go_wp2
            go_roundw
            case rel =>
              refine ⟨i + 1, k, _, _, _, by first | rw [HW9.out] | rfl, rfl, HS.out.next HF6.out ((colN_agr wr c1 9).trans (colN_agr Y _ 7) (by have := HYS.out; omega)) HR6.out HIL.out HS.out.kl ?_ ?_ (fun a ha => ?_) ?_ HS.out.ls⟩
              . rw [<- hW']; exact HCK.out
              . rw [<- hW', <- HRN.out, run_write HIN.out]
              . rcases List.mem_append.1 ha with h1 | h1
                . exact HS.out.wr' a h1
                . exact ⟨j, x, List.mem_singleton.1 h1, hj, HHX.out⟩
              . have := HS.out.wl
                rw [List.length_append, List.length_singleton]; omega
            case measure => have := HIL.out; first | (rw [HW9.out]; simp only [intOf]; omega) | (simp only [intOf]; omega)
        . have hinI : (n : Int) <= (i : Int) := by omega
          have HIN : Hid (n <= i) := by show n <= i; omega
          clear hin
          go_wp2_with fail
          go_quiet (fail)
          rw [<- hX]
          have HYB := hideF (below_drewN HXB.out nq)
          clear hX
          go_wp2
          go_roundw
          case rel =>
            refine ⟨i + 1, k, s1, v, colN wr c1 9, by first | rw [HW9.out] | rfl, rfl, HS.out.next (Fc.of_below HYB.out) (colN_agr wr c1 9) (HRG.out.frame (k := 9) (Fc.of_below HYB.out) (colN_agr wr c1 9) (by omega)) HIL.out HS.out.kl ?_ ?_ HS.out.wr' (by have := HS.out.wl; omega) HS.out.ls⟩
            . rw [<- hW']; exact HCK.out
            . rw [<- hW', <- HRN.out]; exact (run_skip HIN.out _ _ _ _ _).symm
          case measure => have := HIL.out; first | (rw [HW9.out]; simp only [intOf]; omega) | (simp only [intOf]; omega)
      | sync hck' =>
        obtain ⟨X, hX⟩ : ∃ X, X = wr.alloc (.cells #[.int .u8 1, .int .i64 0, .int .i64 0, .string ⟨#[]⟩] 77) := ⟨_, rfl⟩
        have hXb : Below wr.heap.size wr X := by rw [hX]; exact bel_alloc (Below.refl _ _) _
        have HXB := hideF hXb
        have HCK := hideF hck'
        have HRN := hideF hrn
        clear hck' hrn
        by_cases hin : i < n
        . have hinI : (i : Int) < (n : Int) := by omega
          have HIN := hideF hin
          clear hin
          have hRX : RigIn X B (colN wr c1 9) { q with wt := v } D s1 nd := HRG.out.frame (k := 9) (Fc.of_below hXb) (colN_agr wr c1 9) (by omega)
          have HRX := hideF hRX
          clear hRX hXb
          obtain ⟨vw, vk, hvw, _⟩ := HVW.out
          have hvw' : v = .slice vw s1.wet.length vk := hvw
          subst hvw'
          clear hvw
          go_wp2_with fail
          rw [<- hX]
          clear hX r11 r12 r13 rf hdc hdf a0 a1 a2 a3
          go_loopw [12] (fun kk wr2 => ∃ (j : Nat), kk = .int .i64 (j : Nat) /\ j <= s1.wet.length /\ RigIn wr2 B (colN wr c1 9) { q with wt := .slice vw s1.wet.length vk } D { s1 with dk := (s1.wet.take j).foldl putD s1.dk } nd /\ Fc c1 7 wr wr2) (fun kk _ => s1.wet.length - (intOf kk).toNat)
          case atStart => exact ⟨0, rfl, Nat.zero_le _, HRX.out, Fc.of_below HXB.out⟩
          case round =>
            obtain ⟨j, rfl, hj, hR2, hF2⟩ := hrel
            by_cases hjl : j < s1.wet.length
            . obtain ⟨a, ha⟩ : ∃ a, s1.wet[j]? = some a := ⟨_, List.getElem?_eq_getElem hjl⟩
              obtain ⟨jj, x, rfl, hjj, hxs⟩ := HS.out.wr' a (List.mem_of_getElem? ha)
              obtain ⟨_, _, e11, e12, _, ef, hgl2⟩ := hR2.cells
              obtain ⟨gd2, cap2, hdv2, hgd2, _, hdc2, hdf2⟩ := hR2.disk hnd.1
              rw [hdv2] at e11
              obtain ⟨gw, rfl, hgw, w0, w1, w2, w3⟩ := acts_at (l := s1.wet) (show wr.ownsRow B 77 4 (.slice vw s1.wet.length vk) s1.wet.length (s1.wet.flatMap encA) from hR2.wet) j _ ha
              have e12' : wr.cell? ⟨q.g, 12, none⟩ = some (.slice (some ⟨gw, 0, none⟩) s1.wet.length vk) := e12
              have hjjI : (jj : Int) < (nd : Int) := by omega
              have hdj := hdc2 jj hjj
              obtain ⟨hR3, hF3⟩ := hR2.dkPut (x := x) hdv2 hjj
              have HR3 := hideF hR3
              have HF3 := hideF (hF2.trans (hF3.trans (Fc.of_below (Below.refl _ _).drew) (Agr.refl _ _)) (colN_agr _ c1 9))
              have HE : Hid ((s1.wet.take (j + 1)).foldl putD s1.dk = fun i => if i = jj then x else ((s1.wet.take j).foldl putD s1.dk) i) := by show _ = _; rw [take_succ_at _ _ _ ha, List.foldl_append]; rfl
              have HWJ : Hid (wrap64 ((j : Int) + 1) = ((j + 1 : Nat) : Int)) := by show _ = _; simp only [wrap64]; omega
              have HJL : Hid (j + 1 <= s1.wet.length) := hjl
              clear hR2 hF2 hR3 hF3 ha hxs e12 hdc2
              go_wp2_with fail
              go_region
              go_wp2
              go_roundw
              case rel =>
                refine ⟨j + 1, by first | rw [HWJ.out] | rfl, HJL.out, ?_, HF3.out⟩
                rw [HE.out]
                exact HR3.out.frame (k := 9) (Fc.of_below (Below.refl _ _).drew) (Agr.refl _ _) (by omega)
              case measure => have := HJL.out; first | (rw [HWJ.out]; simp only [intOf]; omega) | (simp only [intOf]; omega)
            . obtain rfl : j = s1.wet.length := by omega
              rw [List.take_length] at hR2
              obtain ⟨_, _, _, e12, _, ef, hgl2⟩ := hR2.cells
              have e12' : wr.cell? ⟨q.g, 12, none⟩ = some (.slice vw s1.wet.length vk) := e12
              obtain ⟨hR3, hF3⟩ := hR2.wetNil
              have HR3 := hideF hR3
              have HF3 := hideF (hF2.trans hF3 (colN_agr _ c1 9))
              clear hR2 hF2 hR3 hF3 e12
              go_wp2
              go_roundw
              case rel =>
                refine ⟨i + 1, k, syncL s1, .slice none 0 0, _, by first | rw [HW9.out] | rfl, rfl, HS.out.next HF3.out (colN_agr _ c1 9) HR3.out HIL.out HS.out.kl ?_ ?_ (fun a ha => by simp [syncL] at ha) (by simp [syncL]) HS.out.ls⟩
                . rw [<- hW']; exact HCK.out
                . rw [<- hW', <- HRN.out, run_sync HIN.out]
              case measure => have := HIL.out; first | (rw [HW9.out]; simp only [intOf]; omega) | (simp only [intOf]; omega)
        . have hinI : (n : Int) <= (i : Int) := by omega
          have HIN : Hid (n <= i) := by show n <= i; omega
          clear hin hXb
          go_wp2_with fail
          rw [<- hX]
          clear hX
          go_roundw
          case rel =>
            refine ⟨i + 1, k, s1, v, colN wr c1 9, by first | rw [HW9.out] | rfl, rfl, HS.out.next (Fc.of_below HXB.out) (colN_agr wr c1 9) (HRG.out.frame (k := 9) (Fc.of_below HXB.out) (colN_agr wr c1 9) (by omega)) HIL.out HS.out.kl ?_ ?_ HS.out.wr' (by have := HS.out.wl; omega) HS.out.ls⟩
            . rw [<- hW']; exact HCK.out
            . rw [<- hW', <- HRN.out]; exact (run_skip HIN.out _ _ _ _ _).symm
          case measure => have := HIL.out; first | (rw [HW9.out]; simp only [intOf]; omega) | (simp only [intOf]; omega)
      | @send W0 _ x hck' =>
        obtain ⟨hkx, hW2⟩ := drop_at hW'.symm
        obtain ⟨hkl, _⟩ := List.getElem?_eq_some_iff.1 hkx
        obtain ⟨x0, x1, x2⟩ := x
        obtain ⟨hx0, hx9⟩ := HW.out _ (List.mem_of_getElem? hkx)
        obtain ⟨m, rfl⟩ : ∃ m : Nat, x0 = (m : Int) := ⟨x0.toNat, by have : 0 <= x0 := hx0; omega⟩
        have hm9 : m <= 1000000000 := by have : (m : Int) <= 1000000000 := hx9; omega
        have hsl := HS.out.wl2
        obtain ⟨gs, rfl, hgs, b0, b1, b2⟩ := sends_at hsl k _ hkx
        obtain ⟨X, hX⟩ : ∃ X, X = wr.alloc (.cells #[.int .u8 2, .int .i64 0, .int .i64 x1, .string x2] 77) := ⟨_, rfl⟩
        have hXb : Below wr.heap.size wr X := by rw [hX]; exact bel_alloc (Below.refl _ _) _
        have HXB := hideF hXb
        have HCK := hideF hck'
        have HRN := hideF hrn
        have HW2 := hideF hW2
        have HKL : Hid (k + 1 <= W.length) := hkl
        have g1 : decide (W.length <= k) = false := by simp; omega
        have hkI : (k : Int) < (W.length : Int) := by omega
        have HWK : Hid (wrap64 ((k : Int) + 1) = ((k + 1 : Nat) : Int)) := by show _ = _; simp only [wrap64]; omega
        have a0' : wr.cell? ⟨ga, i * 4, none⟩ = some (.int .u8 2) := a0
        have a1' : wr.cell? ⟨ga, i * 4 + 1, none⟩ = some (.int .i64 0) := a1
        have a2' : wr.cell? ⟨ga, i * 4 + 2, none⟩ = some (.int .i64 x1) := a2
        have a3' : wr.cell? ⟨ga, i * 4 + 3, none⟩ = some (.string x2) := a3
        have b0' : wr.cell? ⟨gs, k * 3, none⟩ = some (.int .i64 x1) := b0
        have b1' : wr.cell? ⟨gs, k * 3 + 1, none⟩ = some (.string x2) := b1
        have b2' : wr.cell? ⟨gs, k * 3 + 2, none⟩ = some (.int .i64 (m : Nat)) := b2
        clear hck' hrn hXb hsl hkx hW2 hW' hx0 hx9 a0 a1 a2 a3 b0 b1 b2
        by_cases hin : i < n
        . have hinI : (i : Int) < (n : Int) := by omega
          have g2 : decide (i < n) = true := by simp; omega
          have HIN := hideF hin
          clear hin
          go_wp2_with fail
          go_quiet (fail)
          rw [<- hX]
          obtain ⟨Y, hY⟩ : ∃ Y, Y = X.drewN nq := ⟨_, rfl⟩
          have hYb : Below wr.heap.size wr Y := by rw [hY]; exact below_drewN HXB.out nq
          rw [<- hY]
          have hRY : RigIn Y B (colN wr c1 9) { q with wt := v } D s1 nd := HRG.out.frame (k := 9) (Fc.of_below hYb) (colN_agr wr c1 9) (by omega)
          obtain ⟨_, _, _, _, y13, yf, hyl⟩ := hRY.cells
          have d2' := ((bcell hYb).1 _ _ hgs).trans b2'
          have HRY := hideF hRY
          have HYB := hideF hYb
          clear hRY hYb hX hY r11 r12 r13 rf hdc hdf a0' a1' a2' a3' b0' b1' b2'
          by_cases hml : s1.least < m
          . have g3 : decide (s1.least < m) = true := by simp; omega
            have g4 : decide ((s1.least : Int) < (m : Int)) = true := by simp; omega
            have HML := hideF hml
            clear hml
            go_wp2_with fail
            go_quiet (fail)
            have hRQ := (HRY.out.frame (k := 9) (Fc.of_below (below_drewN (Below.refl Y.heap.size Y) nq)) (Agr.refl _ _) (by omega)).leastPut m
            have HRQ := hideF hRQ.1
            have HFQ := hideF (((Fc.of_below HYB.out).trans (Fc.of_below (below_drewN (Below.refl Y.heap.size Y) nq)) (colN_agr wr c1 9)).trans hRQ.2 (colN_agr wr c1 9))
            clear hRQ
            go_wp2
            go_roundw
            case rel =>
              refine ⟨i + 1, k + 1, _, _, _, by first | rw [HW9.out] | rfl, by first | rw [HWK.out] | rfl, HS.out.next HFQ.out (colN_agr wr c1 9) HRQ.out HIL.out HKL.out ?_ ?_ HS.out.wr' (by have := HS.out.wl; show s1.wet.length <= _; omega) hm9⟩
              . rw [HW2.out]; exact HCK.out
              . rw [HW2.out, <- HRN.out, run_send HIN.out]
                have e : max s1.least ((m : Int)).toNat = m := by have := HML.out; show max s1.least m = m; omega
                rw [e]
            case measure => have := HIL.out; first | (rw [HW9.out]; simp only [intOf]; omega) | (simp only [intOf]; omega)
          . have g3 : decide (s1.least < m) = false := by simp; omega
            have g4 : decide ((s1.least : Int) < (m : Int)) = false := by simp; omega
            have HML : Hid (m <= s1.least) := by show m <= s1.least; omega
            clear hml
            go_wp2_with fail
            go_quiet (fail)
            have HYB2 := hideF (below_drewN HYB.out nq)
            go_wp2
            go_roundw
            case rel =>
              refine ⟨i + 1, k + 1, s1, v, _, by first | rw [HW9.out] | rfl, by first | rw [HWK.out] | rfl, HS.out.next (Fc.of_below HYB2.out) (colN_agr wr c1 9) (HRG.out.frame (k := 9) (Fc.of_below HYB2.out) (colN_agr wr c1 9) (by omega)) HIL.out HKL.out ?_ ?_ HS.out.wr' (by have := HS.out.wl; omega) HS.out.ls⟩
              . rw [HW2.out]; exact HCK.out
              . rw [HW2.out, <- HRN.out, run_send HIN.out]
                have e : max s1.least ((m : Int)).toNat = s1.least := by have := HML.out; show max s1.least m = s1.least; omega
                rw [e]
            case measure => have := HIL.out; first | (rw [HW9.out]; simp only [intOf]; omega) | (simp only [intOf]; omega)
        . have hinI : (n : Int) <= (i : Int) := by omega
          have g2 : decide (i < n) = false := by simp; omega
          have g2' : decide ((i : Int) < (n : Int)) = false := by simp; omega
          have HIN : Hid (n <= i) := by show n <= i; omega
          clear hin
          go_wp2_with fail
          go_quiet (fail)
          rw [<- hX]
          obtain ⟨Y, hY⟩ : ∃ Y, Y = X.drewN nq := ⟨_, rfl⟩
          have hYb : Below wr.heap.size wr Y := by rw [hY]; exact below_drewN HXB.out nq
          rw [<- hY]
          have hRY : RigIn Y B (colN wr c1 9) { q with wt := v } D s1 nd := HRG.out.frame (k := 9) (Fc.of_below hYb) (colN_agr wr c1 9) (by omega)
          obtain ⟨_, _, _, _, y13, yf, hyl⟩ := hRY.cells
          have d2' := ((bcell hYb).1 _ _ hgs).trans b2'
          have HRY := hideF hRY
          have HYB := hideF hYb
          clear hRY hYb hX hY r11 r12 r13 rf hdc hdf a0' a1' a2' a3' b0' b1' b2'
          go_wp2_with fail
          go_quiet (fail)
          have HYB2 := hideF (below_drewN HYB.out nq)
          go_wp2
          go_roundw
          case rel =>
            refine ⟨i + 1, k + 1, s1, v, _, by first | rw [HW9.out] | rfl, by first | rw [HWK.out] | rfl, HS.out.next (Fc.of_below HYB2.out) (colN_agr wr c1 9) (HRG.out.frame (k := 9) (Fc.of_below HYB2.out) (colN_agr wr c1 9) (by omega)) HIL.out HKL.out ?_ ?_ HS.out.wr' (by have := HS.out.wl; omega) HS.out.ls⟩
            . rw [HW2.out]; exact HCK.out
            . rw [HW2.out, <- HRN.out]; exact (run_skip HIN.out _ _ _ _ _).symm
          case measure => have := HIL.out; first | (rw [HW9.out]; simp only [intOf]; omega) | (simp only [intOf]; omega)
    . obtain rfl : i = A.length := by have := hst.il; omega
      have hck := hst.ck
      have hrn := hst.rn
      rw [List.drop_length] at hck hrn
      obtain ⟨W', hW'⟩ : ∃ W', W' = W.drop k := ⟨_, rfl⟩
      rw [<- hW'] at hck hrn
      have hW0 : W' = [] := by cases hck; rfl
      rw [hW0] at hW' hrn
      have hkW : k = W.length := by have := congrArg List.length hW'; have := hst.kl; simp at *; omega
      have hfin : runL n W A s = s1 := by rw [<- hrn]; cases (n - A.length) <;> rfl
      have HFIN := hideF hfin
      have HS := hideF hst
      clear hst hck hrn hW' hW0 hfin
      subst hkW
      go_wp2
      go_ret
      exact ⟨rfl, v, c1, by rw [HFIN.out]; exact HS.out.rg, HS.out.ag, HS.out.fc⟩
end Go.Proofs.YtcpldcojckhapaaGreat

set_option maxRecDepth 100000
namespace Go.Proofs.YtcpldcojckhapaaGreat
open Go.RowKit
structure OfCf (D : Dev) (F : Cf) : Prop where
  sz : D.sz = szF F.s0 F.s1 F.s2 F.s3
  kp : D.kp = fun i => if i = 0 then F.c else if i = 2 then F.h else 0
  unit : D.unit = F.u
  nl : D.nl = F.n
  batch : D.batch = F.b
  sec : D.sec = F.sec
  kind : ∀ i, (D.ln i).kind = F.kn i
theorem Cf.dev_of (F : Cf) (B lat st : Nat) (S : ByteArray) : OfCf (F.dev B lat st S) F := ⟨rfl, rfl, rfl, rfl, rfl, rfl, fun _ => rfl⟩
structure StB (w : World) (B : Nat) (c : Nat -> Nat) (q : Plc) (kb m : Nat) (b : Bks) (F : Cf) (D : Dev) (s : Ls) (left : List (List Int)) (safe : Nat) (ys : Nat -> ByteArray) (zs : Nat -> Bool) (nd : Nat) : Prop where
  bk : BkC w B c kb m b
  rf : RefIn w B c q.p D left safe ys zs
  rg : RigIn w B c q D s nd
  nr : Nrm w B c
  lb : B <= q.p.lb
  cf : OfCf D F
theorem Fc.toBelow {w w' : World} {B k : Nat} {c : Nat -> Nat} (h : Fc c k w w') (hn : Nrm w B c) (hk : k ≠ 0) (hB : B <= w.heap.size) : Below B w w' := ⟨h.os, h.tape, h.output, h.size, fun g hg => h.low g (by omega) ((hn.zero g).2 hg) hk⟩
section
variable {w w' : World} {B : Nat} {c c' : Nat -> Nat} {q : Plc} {kb m : Nat} {b : Bks} {F : Cf} {D : Dev} {s : Ls} {left : List (List Int)} {safe : Nat} {ys : Nat -> ByteArray} {zs : Nat -> Bool} {nd : Nat}
theorem StB.norm (bk : BkC w B c kb m b) (rf : RefIn w B c q.p D left safe ys zs) (rg : RigIn w B c q D s nd) (lb : B <= q.p.lb) (cf : OfCf D F) : StB w B (nc w B c) q kb m b F D s left safe ys zs nd :=
  ⟨bk.nc, rf.nc lb, rg.nc, nc_nrm _ _ _, lb, cf⟩
theorem StB.below (h : StB w B c q kb m b F D s left safe ys zs nd) (hb : Below w.heap.size w w') : StB w' B (nc w' B (colN w c 9)) q kb m b F D s left safe ys zs nd :=
  StB.norm (h.bk.frame (k := 9) (Fc.of_below hb) (colN_agr w c 9) (by decide)) (h.rf.frame (k := 9) (Fc.of_below hb) (colN_agr w c 9) (by decide) (by decide) (by decide)) (h.rg.frame (k := 9) (Fc.of_below hb) (colN_agr w c 9) (by decide)) h.lb h.cf
theorem StB.cells (h : StB w B c q kb m b F D s left safe ys zs nd) (hnd : 0 < nd) : ∃ gd dcap, q.dv = .slice (some ⟨gd, 0, none⟩) nd dcap /\ gd < w.heap.size /\ c gd = 7 /\ (∀ j, j < nd -> w.cell? ⟨gd, j, none⟩ = some (.string (s.dk j))) /\
    w.cell? ⟨q.g, 0, none⟩ = some (.pointer (some ⟨q.d, 0, none⟩)) /\ w.cell? ⟨q.g, 1, none⟩ = some (.pointer (some ⟨q.p.r, 0, none⟩)) /\ w.cell? ⟨q.g, 2, none⟩ = some (.int .i64 (F.s0 : Nat)) /\ w.cell? ⟨q.g, 3, none⟩ = some (.int .i64 (F.s1 : Nat)) /\ w.cell? ⟨q.g, 4, none⟩ = some (.int .i64 (F.s2 : Nat)) /\ w.cell? ⟨q.g, 5, none⟩ = some (.int .i64 (F.s3 : Nat)) /\ w.cell? ⟨q.g, 6, none⟩ = some (.int .i64 (F.c : Nat)) /\ w.cell? ⟨q.g, 7, none⟩ = some (.int .i64 (F.h : Nat)) /\ w.cell? ⟨q.g, 8, none⟩ = some (.int .i64 (F.u : Nat)) /\ w.cell? ⟨q.g, 9, none⟩ = some (.slice (some ⟨q.p.lb, 0, none⟩) F.n q.p.cap) /\ w.cell? ⟨q.g, 10, none⟩ = some (.int .i64 (F.b : Nat)) /\ w.cell? ⟨q.g, 11, none⟩ = some (.slice (some ⟨gd, 0, none⟩) nd dcap) /\ w.cell? ⟨q.g, 12, none⟩ = some q.wt /\ w.cell? ⟨q.g, 13, none⟩ = some (.int .i64 (s.least : Nat)) /\ (∀ j, w.frozen? ⟨q.g, j, none⟩ = false) /\ q.g < w.heap.size := by
  obtain ⟨gd, dcap, h1, h2, h3, h4, h5⟩ := h.rg.disk hnd
  obtain ⟨c0, c1, c11, c12, c13, cf, hl⟩ := h.rg.cells
  have hr := h.rg.rig
  have hs := h.cf.sz
  have hk := h.cf.kp
  refine ⟨gd, dcap, h1, h2, h3, h4, c0, c1, ?_, ?_, ?_, ?_, ?_, ?_, ?_, ?_, ?_, ?_, c12, c13, cf, hl⟩
  . rw [cell_of_row _ _ _ _ _ _ hr]; show some (Value.int .i64 ((D.sz 0 : Nat) : Int)) = _; rw [hs]; rfl
  . rw [cell_of_row _ _ _ _ _ _ hr]; show some (Value.int .i64 ((D.sz 1 : Nat) : Int)) = _; rw [hs]; rfl
  . rw [cell_of_row _ _ _ _ _ _ hr]; show some (Value.int .i64 ((D.sz 2 : Nat) : Int)) = _; rw [hs]; rfl
  . rw [cell_of_row _ _ _ _ _ _ hr]; show some (Value.int .i64 ((D.sz 3 : Nat) : Int)) = _; rw [hs]; rfl
  . rw [cell_of_row _ _ _ _ _ _ hr]; show some (Value.int .i64 ((D.kp 0 : Nat) : Int)) = _; rw [hk]; rfl
  . rw [cell_of_row _ _ _ _ _ _ hr]; show some (Value.int .i64 ((D.kp 2 : Nat) : Int)) = _; rw [hk]; rfl
  . rw [cell_of_row _ _ _ _ _ _ hr]; show some (Value.int .i64 ((D.unit : Nat) : Int)) = _; rw [h.cf.unit]
  . rw [cell_of_row _ _ _ _ _ _ hr]; show some (Value.slice (some ⟨q.p.lb, 0, none⟩) D.nl q.p.cap) = _; rw [h.cf.nl]
  . rw [cell_of_row _ _ _ _ _ _ hr]; show some (Value.int .i64 ((D.batch : Nat) : Int)) = _; rw [h.cf.batch]
  . rw [c11, h1]
end
structure Reop (w0 wx : World) (B : Nat) (c1 : Nat -> Nat) (q : Plc) (kb m1 : Nat) (b1 : Bks) (F : Cf) (D : Dev) (s : Ls) (left : List (List Int)) (safe : Nat) (ys : Nat -> ByteArray) (zs : Nat -> Bool) (nd lat st : Nat) (d : ByteArray) (q1 : Plc) (ov : Value) (N : Nat) (o : OpV) : Prop where
  sb : StB wx B c1 q kb m1 b1 F D s left safe ys zs nd
  dv : DevC wx B c1 q1 (F.dev N lat st d)
  ow : wx.ownsRow B 77 4 ov (readyA s.dk F.sec lat st).length ((readyA s.dk F.sec lat st).flatMap encA)
  co : ∀ g, ov.ownBlock = some g -> c1 g = 9
  cm : Calm F.z F.sec nd lat st d s
  ix : Idx F.c F.h left s.least d
  bx : wx.heap[w0.heap.size]? = some (.cells (opA o) 42 (0, 0))
  cb : c1 w0.heap.size = 9
  bl : Below B w0 wx
theorem reopen (w0 w : World) (B : Nat) (c : Nat -> Nat) (q : Plc) (kb m : Nat) (b : Bks) (F : Cf) (D : Dev) (s : Ls) (left : List (List Int)) (safe : Nat) (ys : Nat -> ByteArray) (zs : Nat -> Bool) (nd lat st gd dcap : Nat) (d : ByteArray) (o : OpV) (h : StB w B c q kb m b F D s left safe ys zs nd) (hF : CfOk F) (hm : m <= 900000) (hnd : 2 * F.sec <= nd /\ nd <= 64) (hcm : Calm F.z F.sec nd lat st d s) (hix : Idx F.c F.h left s.least d) (hgd : q.dv = .slice (some ⟨gd, 0, none⟩) nd dcap)
    (hbx : w.heap[w0.heap.size]? = some (.cells (opA o) 42 (0, 0))) (hcb : c w0.heap.size = 9) (hbl : Below B w0 w) :
    Calls Tryz.prog 13 #[.agg #[.int .i64 (F.s0 : Nat), .int .i64 (F.s1 : Nat), .int .i64 (F.s2 : Nat), .int .i64 (F.s3 : Nat), .int .i64 (F.c : Nat), .int .i64 (F.h : Nat), .int .i64 (F.u : Nat), .slice (some ⟨q.p.lb, 0, none⟩) F.n q.p.cap, .int .i64 (F.b : Nat)], .slice (some ⟨gd, 0, none⟩) nd dcap, .pointer (some ⟨kb, 0, none⟩)] w fun e w' => ∃ v, e = .returned v /\ ∃ q1 ov b' c' N, v = .tuple #[.pointer (some ⟨q1.d, 0, none⟩), ov, .int .i64 0, .bool true] /\ Reop w0 w' B c' q kb (m + 5) b' F D s left safe ys zs nd lat st d q1 ov N o := by
  have hB := h.bk.bk.lo.2
  obtain ⟨hl1, hl2, hl3⟩ := hcm.dk
  have hs1 : 1 <= F.sec := by unfold Cf.sec; omega
  obtain ⟨gd', dcap', e1, hgl, hc7, hcd, _⟩ := h.cells (by have := hnd.1; omega)
  rw [hgd] at e1
  simp only [Value.slice.injEq, Option.some.injEq, Addr.mk.injEq, and_true, true_and] at e1
  obtain ⟨rfl, rfl⟩ := e1
  obtain ⟨cl, hcl⟩ := h.rf.lnb
  have hlbl := lt_of_block hcl
  have hno : ∀ g, c g ≠ 1 -> ¬ b.on kb g := fun g h1 h2 => h1 (h.bk.col g h2)
  have hlc : ∀ j, j < F.n -> w.cell? ⟨q.p.lb, j, none⟩ = some (.int .i64 (F.kn j : Nat)) := fun j hj => by rw [h.rf.lns j (by rw [h.cf.nl]; exact hj), h.cf.kind]
  have hk1 := hF.kn
  refine (opens_dev w B kb m c b F q.p.cap nd dcap (some ⟨q.p.lb, 0, none⟩) (some ⟨gd, 0, none⟩) s.dk h.bk h.nr hF hm ?_ ?_ ?_ ?_ ?_ hnd ?_ hcm.size).mono ?_
  . intro j hj
    refine ⟨q.p.lb, 0, rfl, hlbl, by rw [Nat.zero_add]; exact hlc j hj, ?_, ?_⟩
    . show (-9223372036854775808 : Int) <= ((F.kn j : Nat) : Int); omega
    . show ((F.kn j : Nat) : Int) <= 9223372036854775807; have := hk1 j hj; omega
  . refine .inr ⟨_, _, rfl, fun j u hj => ?_⟩
    obtain ⟨x, h1, rfl⟩ := encI_atL _ j u hj
    rw [List.getElem?_map] at h1
    obtain ⟨y, h2, rfl⟩ := Option.map_eq_some_iff.1 h1
    obtain ⟨h3, h4⟩ := List.getElem?_eq_some_iff.1 h2
    simp at h3 h4
    subst h4
    have e : (⟨q.p.lb, 0, none⟩ : Addr).add j = ⟨q.p.lb, j, none⟩ := by by_cases h0 : j = 0 <;> simp [Addr.add, h0]
    rw [e]
    exact hlc j h3
  . intro a ha
    cases ha
    exact ⟨hlbl, hno _ (by rw [h.rf.cb]; decide)⟩
  . have := row_src h.rg.dk
    rw [hgd] at this
    exact this
  . exact fun j hj => ⟨gd, 0, rfl, hgl, by rw [Nat.zero_add]; exact hcd j hj⟩
  . intro a ha
    cases ha
    exact ⟨hgl, hno _ (by rw [hc7]; decide)⟩
  . rintro e w' ⟨q1, ov, b', c', N, rfl, hbk', hnr', hdv', hov', hco', hag, hfc⟩
    rw [hl1, hl2] at hov' hdv'
    rw [hl3] at hdv'
    refine ⟨_, rfl, q1, ov, b', c', N, rfl, ⟨hbk', h.rf.frame1 hfc hag (by decide) (by decide) (by decide), h.rg.frame1 hfc hag (by decide), hnr', h.lb, h.cf⟩, hdv', own_base hov' hB, hco', hcm, hix, (hfc.keep _ _ _ hbx (.inl (by decide)) (by rw [hcb]; decide)).trans hbx, (hag _ (lt_of_block hbx) (by rw [hcb]; decide)).trans hcb, hbl.trans (hfc.toBelow h.nr (by decide) hB)⟩
end Go.Proofs.YtcpldcojckhapaaGreat
