/-
  
-/
import Derived.Test.YtcpldcojckhapaaGreatS8
import Derived.Deep.RegionHeld3
import Derived.Test.YtcpldcojckhapaaGreatNa
set_option maxRecDepth 100000
namespace Go.Proofs.YtcpldcojckhapaaGreat
open Go.RowKit
def Stands (w w' : World) (B : Nat) (q : Plc) (kb m' : Nat) (F : Cf) (nd : Nat) : Prop :=
  ∃ q' c' b' D2 s2 left2 safe2 ys2 zs2 d2, StB w' B c' q' kb m' b' F D2 s2 left2 safe2 ys2 zs2 nd /\ DevC w' B c' q' D2 /\ Sim F.z F.sec nd D2 s2 left2 safe2 d2 /\ DevOk D2 /\ D2.arr <= 900000 /\ (∀ l ∈ left2, l.length <= 1000) /\ q'.g = q.g /\ Below B w w'
theorem Again.stands {w : World} {B : Nat} {q : Plc} {kb m : Nat} {F : Cf} {nd : Nat} {e : Ending} {w' : World} (h : Again w B q kb m F nd e w') (hF : CfOk F) : e = .returned (.bool true) /\ Stands w w' B q kb (m + 10) F nd := by
  obtain ⟨h0, q', c', b', N, lat, st, d, s', h1, h2, h3, h4, h5, h6⟩ := h
  refine ⟨h0, q', c', b', _, s', _, _, _, _, d, h1, h2, h3, h4, Nat.zero_le _, fun l hl => ?_, h5, h6⟩
  rw [List.mem_singleton.1 hl, keptL_len]
  have := hF.c
  have := hF.h
  have := hF.s0
  have := hF.s2
  omega
theorem Sim.raise {z sec nd : Nat} {D : Dev} {s : Ls} {left : List (List Int)} {safe : Nat} {d : ByteArray} (h : Sim z sec nd D s left safe d) : Sim z sec nd D { s with least := safe } left safe d := by
  obtain ⟨j, _, h2, h3⟩ := h.ix
  exact ⟨h.fl, h.top, ⟨h.cm.size, h.cm.wet, h.cm.dk⟩, h.rd, h.ll, h.la, ⟨j, h2, h2, h3⟩, h.u0, h.sf, h.sf, h.hz, h.hs, h.hn⟩
set_option maxHeartbeats 8000000 in
theorem through_any (w : World) (B : Nat) (c : Nat -> Nat) (q : Plc) (kb m : Nat) (b : Bks) (F : Cf) (D : Dev) (s : Ls) (left : List (List Int)) (safe : Nat) (ys : Nat -> ByteArray) (zs : Nat -> Bool) (nd : Nat) (o : OpV) (lv sv : Value) (C1 C2 : Nat) (A : List (Int × Int × Int × ByteArray)) (W : List (Int × Int × ByteArray)) (d : ByteArray) (h : StB w B c q kb m b F D s left safe ys zs nd) (hdv : DevC w B c q D) (hF : CfOk F) (hm : m <= 700000) (hnd : 2 * F.sec <= nd /\ nd <= 64) (ho : OpR o)
    (hl : w.ownsRow C1 77 4 lv A.length (A.flatMap encA)) (hC1 : B <= C1) (hlc : ∀ g, lv.ownBlock = some g -> c g = 1 /\ ¬ b.on kb g) (hsv : w.ownsRow C2 113 3 sv W.length (W.flatMap encW)) (hsc : ∀ g, sv.ownBlock = some g -> c g ≠ 7) (hck : Chk nd W A) (hA : A.length <= 900000) (hWl : W.length <= 900000) (hw : s.wet = []) (hls : s.least <= 900000) (hWn : ∀ x ∈ W, 0 <= x.1 /\ x.1 <= 1000000000)
    (hlose : ∀ n, n <= A.length -> MayLose F.z F.sec nd F.c F.h left (runL n W A s)) (hleast : ∀ n, n <= A.length -> (runL n W A s).least <= 900000) (hsim : Sim F.z F.sec nd D (runL A.length W A s) left safe d) (hok : DevOk D) (har : D.arr <= 900000) (hll : ∀ l ∈ left, l.length <= 1000) :
    Calls Tryz.prog 33 #[.pointer (some ⟨q.g, 0, none⟩), lv, sv, .agg (opA o), .pointer (some ⟨kb, 0, none⟩)] w fun e w' => e = .returned (.bool true) /\ Stands w w' B q kb (m + 11) F nd := by
  obtain ⟨hs1, hs3, _⟩ := Cf.sec_le hF
  have hnd0 : 0 < nd := by have := hnd.1; omega
  have hB := h.bk.bk.lo.2
  obtain ⟨X, hX⟩ : ∃ X, X = w.alloc (.cells (opA o) 42) := ⟨_, rfl⟩
  have hXb : Below w.heap.size w X := by rw [hX]; exact bel_alloc (Below.refl _ _) _
  have hXg : X.heap[w.heap.size]? = some (.cells (opA o) 42 (0, 0)) := by rw [hX]; exact heap_alloc_new w _
  obtain ⟨cX, hcX⟩ : ∃ cX, cX = nc X B (colN w c 9) := ⟨_, rfl⟩
  have hSX : StB X B cX q kb m b F D s left safe ys zs nd := by rw [hcX]; exact h.below hXb
  have hDX : DevC X B cX q D := by rw [hcX]; exact (hdv.frame h.nr (Fc.of_below (k := 9) hXb) (colN_agr w c 9) (by decide)).nc
  have hc9 : cX w.heap.size = 9 := by rw [hcX]; exact nc_at hB hXg (by decide) (colN_new w c 9 _ (Nat.le_refl _)) (by decide)
  have hlX := ownsRow_below hl hXb
  have hsX := ownsRow_below hsv hXb
  have hlcX : ∀ g, lv.ownBlock = some g -> cX g = 1 := by
    rw [hcX]
    exact nc_row hlX hC1 (by decide) (by decide) (fun g hg => (colN_agr w c 9 g (hl.lt g hg).2).trans (hlc g hg).1)
  have hscX : ∀ g, sv.ownBlock = some g -> cX g ≠ 7 := fun g hg => by
    rw [hcX]
    obtain ⟨cur, hcur⟩ := own_block hsX g hg
    have e1 := (colN_agr w c 9 g (hsv.lt g hg).2)
    unfold nc
    split
    . decide
    . split
      . decide
      . split
        . decide
        . rw [e1]; exact hsc g hg
  obtain ⟨al, ak, rfl, _⟩ := own_view hl
  have z15 : X.cell? ⟨w.heap.size, 15, none⟩ = some (.int .i64 o.cut) := (cell_of_row _ _ _ _ _ _ hXg).trans rfl
  have hac : ∀ n, n <= A.length -> Calls Tryz.prog 17 #[.pointer (some ⟨q.g, 0, none⟩), .slice al A.length ak, sv, .int .i64 (n : Nat)] X fun e w' => e = .returned (.bool true) /\ ∃ v c', RigIn w' B c' { q with wt := v } D (runL n W A s) nd /\ Agr X cX c' /\ Fc cX 7 X w' := fun n hn => acts_any X B cX q D s nd n _ sv C1 C2 A W hSX.rg ⟨hnd0, hnd.2⟩ hlX hsX (fun g hg => by rw [hlcX g hg]; decide) hscX hck (by omega) (by omega) hw (by omega) hWn
  -- behind the acts, the list goes to the book
  have hbook : ∀ (n : Nat) (w1 : World) (v : Value) (c1 : Nat -> Nat), RigIn w1 B c1 { q with wt := v } D (runL n W A s) nd -> Agr X cX c1 -> Fc cX 7 X w1 -> Calls Tryz.prog 52 #[.pointer (some ⟨kb, 0, none⟩), .slice al A.length ak] w1 fun e w2 => e = .returned (.tuple #[]) /\ ∃ b2 c2, StB w2 B c2 { q with wt := v } kb (m + 1) b2 F D (runL n W A s) left safe ys zs nd /\ DevC w2 B c2 { q with wt := v } D /\ w2.heap[w.heap.size]? = some (.cells (opA o) 42 (0, 0)) /\ c2 w.heap.size = 9 /\ Below B w w2 := fun n w1 v c1 hR1 hag1 hf1 => by
    have hbk1 := hSX.bk.frame hf1 hag1 (by decide)
    have hrf1 := hSX.rf.frame hf1 hag1 (by decide) (by decide) (by decide)
    have hdv1 := (hDX.at q.g q.p q.dv v).frame hSX.nr hf1 hag1 (by decide)
    have hl1 := hf1.own hlX (by decide) (fun g hg => by rw [hlcX g hg]; decide)
    have hbx1 := (hf1.keep _ _ _ hXg (.inl (by decide)) (by rw [hc9]; decide)).trans hXg
    have hcb1 : nc w1 B c1 w.heap.size = 9 := nc_at hB hbx1 (by decide) ((hag1 _ (lt_of_block hXg)).trans hc9) (by decide)
    have hS1 : StB w1 B (nc w1 B c1) { q with wt := v } kb m b F D (runL n W A s) left safe ys zs nd := StB.norm hbk1 hrf1 hR1 hSX.lb hSX.cf
    have hD1 := hdv1.nc
    have hlc1 : ∀ g, Value.ownBlock (.slice al A.length ak) = some g -> nc w1 B c1 g = 1 := nc_row hl1 hC1 (by decide) (by decide) (fun g hg => (hag1 g (hlX.lt g hg).2).trans (hlcX g hg))
    refine (book_act w1 B kb m b _ A hS1.bk.bk (by omega) (own_base hl1 hC1) (by omega) (fun g hg => (hlc g hg).2)).mono ?_
    rintro e w2 ⟨rfl, b2, hbk2, hst2, _, _⟩
    obtain ⟨hB2, hf2⟩ := hS1.bk.step hbk2 hst2.ft (fun g hg => ⟨hlc1 g hg, by have := (hl1.lt g hg).1; omega, (hl1.lt g hg).2⟩)
    have hag2 := colN_agr w1 (nc w1 B c1) 1
    refine ⟨rfl, _, nc w2 B (colN w1 (nc w1 B c1) 1), StB.norm hB2 (hS1.rf.frame hf2 hag2 (by decide) (by decide) (by decide)) (hS1.rg.frame hf2 hag2 (by decide)) hS1.lb hS1.cf, (hD1.frame hS1.nr hf2 hag2 (by decide)).nc, (hf2.keep _ _ _ hbx1 (.inl (by decide)) (by rw [hcb1]; decide)).trans hbx1, nc_at hB ((hf2.keep _ _ _ hbx1 (.inl (by decide)) (by rw [hcb1]; decide)).trans hbx1) (by decide) ((hag2 _ (lt_of_block hbx1)).trans hcb1) (by decide), ?_⟩
    exact ((hXb.mono hB).trans (hf1.toBelow hSX.nr (by decide) (Nat.le_trans hB hXb.size))).trans (hf2.toBelow hS1.nr (by decide) hS1.bk.bk.lo.2)
  have HAC := hideF hac
  have HBO := hideF hbook
  have HX := hideF hX
  clear hac hbook hXg hXb hSX hDX hlX hsX hlcX hscX hcX hc9 h hdv hl hsv hlc hsc
  by_cases hcut : o.cut < 0
  . go_enter Tryz.func33, Tryz.ntmps33
    go_upto_region 1 with fail
    rw [<- hX]
    clear hX
    go_wp2_with fail
    refine (HAC.out A.length (Nat.le_refl _)).mono ?_
    rintro e w1 ⟨rfl, v1, c1, hR1, hag1, hf1⟩
    have HB1 := hideF (HBO.out A.length w1 v1 c1 hR1 hag1 hf1)
    clear hR1 hag1 hf1 z15
    go_wp2_with fail
    refine HB1.out.mono ?_
    rintro e w2 ⟨rfl, b2, c2, hS2, hD2, hbx2, hcb2, hbl2⟩
    have y15 : w2.cell? ⟨w.heap.size, 15, none⟩ = some (.int .i64 o.cut) := (cell_of_row _ _ _ _ _ _ hbx2).trans rfl
    obtain ⟨_, _, _, _, _, _, _, k1, _, _, _, _, _, _, _, _, _, _, _, k13, kf, hgl⟩ := hS2.cells hnd0
    obtain ⟨_, _, _, _, _, _, _, _, _, _, c18, _, hrl⟩ := hS2.rf.cells
    have k1' : w2.cell? ⟨q.g, 1, none⟩ = some (.pointer (some ⟨q.p.r, 0, none⟩)) := k1
    have k13' : w2.cell? ⟨q.g, 13, none⟩ = some (.int .i64 ((runL A.length W A s).least : Nat)) := k13
    have c18' : w2.cell? ⟨q.p.r, 18, none⟩ = some (.int .i64 (safe : Nat)) := c18
    have kf' : ∀ j, w2.frozen? ⟨q.g, j, none⟩ = false := kf
    obtain ⟨le, hle⟩ : ∃ le, le = (runL A.length W A s).least := ⟨_, rfl⟩
    rw [<- hle] at k13'
    have HLE := hideF hle
    have HS2 := hideF hS2
    have HD2 := hideF hD2
    have HBL2 := hideF hbl2
    have hB2 : B <= w2.heap.size := hS2.bk.bk.lo.2
    clear hS2 hD2 hbl2 hbx2 hcb2 k1 k13 c18 kf hle
    by_cases hsl : le < safe
    . have g3 : decide (le < safe) = true := by simp; omega
      have g4 : decide ((le : Int) < (safe : Int)) = true := by simp; omega
      have HSL := hideF hsl
      clear hsl
      go_wp2_with fail
      go_quiet (fail)
      have hYb : Below w2.heap.size w2 (w2.drewN nq) := below_drewN (Below.refl _ _) nq
      have hS3 := HS2.out.below hYb
      have hD3 := (HD2.out.frame HS2.out.nr (Fc.of_below (k := 9) hYb) (colN_agr w2 c2 9) (by decide)).nc
      obtain ⟨hR4, hf4⟩ := hS3.rg.leastPut safe
      have hS4 := StB.norm (hS3.bk.frame hf4 (Agr.refl _ _) (by decide)) (hS3.rf.frame hf4 (Agr.refl _ _) (by decide) (by decide) (by decide)) hR4 hS3.lb hS3.cf
      have hD4 := (hD3.frame hS3.nr hf4 (Agr.refl _ _) (by decide)).nc
      have hbl4 := HBL2.out.trans ((hYb.mono hB2).trans (hf4.toBelow hS3.nr (by decide) hS3.bk.bk.lo.2))
      have HS4 := hideF (hS4.more (m' := m + 11) (by omega))
      have HD4 := hideF hD4
      have HBL4 := hideF hbl4
      clear hS3 hD3 hR4 hf4 hS4 hD4 hbl4 hYb
      go_wp2
      go_ret
      exact ⟨rfl, _, _, _, D, _, left, safe, ys, zs, d, HS4.out, HD4.out, hsim.raise, hok, har, hll, rfl, HBL4.out⟩
    . have g3 : decide (le < safe) = false := by simp; omega
      have g4 : decide ((le : Int) < (safe : Int)) = false := by simp; omega
      clear hsl
      go_wp2_with fail
      go_quiet (fail)
      have hYb : Below w2.heap.size w2 (w2.drewN nq) := below_drewN (Below.refl _ _) nq
      have HS3 := hideF ((HS2.out.below hYb).more (m' := m + 11) (by omega))
      have HD3 := hideF (HD2.out.frame HS2.out.nr (Fc.of_below (k := 9) hYb) (colN_agr w2 c2 9) (by decide)).nc
      have HBL3 := hideF (HBL2.out.trans (hYb.mono hB2))
      clear hYb
      go_wp2
      go_ret
      exact ⟨rfl, _, _, _, D, _, left, safe, ys, zs, d, HS3.out, HD3.out, hsim, hok, har, hll, rfl, HBL3.out⟩
  . obtain ⟨kk, hkk⟩ : ∃ kk : Nat, o.cut % ((A.length : Int) + 1) = (kk : Int) := ⟨(o.cut % ((A.length : Int) + 1)).toNat, by have := Int.emod_nonneg o.cut (show ((A.length : Int) + 1) ≠ 0 by omega); omega⟩
    have hkl : kk <= A.length := by have := Int.emod_lt_of_pos o.cut (show (0 : Int) < (A.length : Int) + 1 by omega); omega
    have hc0 : 0 <= o.cut := by omega
    have HKK := hideF hkk
    have hz1 : ¬ ((A.length : Int) + 1) = 0 := by omega
    have HC0 := hideF hc0
    clear hkk hcut
    go_enter Tryz.func33, Tryz.ntmps33
    go_upto_region 1 with fail
    rw [<- hX]
    clear hX
    go_wp2_with fail
    rw [HKK.out]
    refine (HAC.out kk hkl).mono ?_
    rintro e w1 ⟨rfl, v1, c1, hR1, hag1, hf1⟩
    have HB1 := hideF (HBO.out kk w1 v1 c1 hR1 hag1 hf1)
    clear hR1 hag1 hf1 z15
    go_wp2_with fail
    refine HB1.out.mono ?_
    rintro e w2 ⟨rfl, b2, c2, hS2, hD2, hbx2, hcb2, hbl2⟩
    have y15 : w2.cell? ⟨w.heap.size, 15, none⟩ = some (.int .i64 o.cut) := (cell_of_row _ _ _ _ _ _ hbx2).trans rfl
    have hML := hlose kk hkl
    have hwl2 : (runL kk W A s).wet.length <= 1000000 := by have := runL_wet kk W A s; rw [hw, List.length_nil] at this; omega
    have HLO := hideF (lost_any w2 B c2 { q with wt := v1 } D (runL kk W A s) nd o hS2.rg ⟨hnd0, hnd.2⟩ hML.wet hML.size hwl2 ho)
    have HML := hideF hML
    have HS2 := hideF hS2
    have HBX2 := hideF hbx2
    have HCB2 := hideF hcb2
    have HBL2 := hideF hbl2
    clear hML hS2 hD2 hbx2 hcb2 hbl2 hwl2
    go_wp2_with (refine wpList_load42 rfl 8 rfl w.heap.size rfl o HBX2.out ?_)
    refine HLO.out.mono ?_
    rintro e w3 ⟨rfl, f3, c3, hL3, hfz3, hR3, hag3, hf3⟩
    have hbx3 := (hf3.keep _ _ _ HBX2.out (.inl (by decide)) (by rw [HCB2.out]; decide)).trans HBX2.out
    have hS3 : StB w3 B (nc w3 B c3) { q with wt := .slice none 0 0 } kb (m + 1) b2 F D { dk := f3, wet := [], least := (runL kk W A s).least } left safe ys zs nd := StB.norm (HS2.out.bk.frame hf3 hag3 (by decide)) (HS2.out.rf.frame hf3 hag3 (by decide) (by decide) (by decide)) hR3 HS2.out.lb HS2.out.cf
    have hbl3 : Below B w w3 := HBL2.out.trans (hf3.toBelow HS2.out.nr (by decide) HS2.out.bk.bk.lo.2)
    obtain ⟨lat3, st3, d3, hdk3, hix3⟩ := HML.out.lose f3 hL3
    have HRT := hideF (returns_any w3 B _ _ kb (m + 1) b2 F D _ left safe ys zs nd lat3 st3 d3 o hS3 hF (by omega) hnd ⟨hfz3, rfl, hdk3⟩ hix3 (by have := hleast kk hkl; show (runL kk W A s).least <= _; omega) ho hll (by have := hsim.ll; omega))
    have HBX3 := hideF hbx3
    have HBL3 := hideF hbl3
    clear hbx3 hS3 hbl3 hdk3 hix3 hL3 hfz3 hR3 hag3 hf3 HLO
    go_wp2_with (refine wpList_load42 rfl 8 rfl w.heap.size rfl o HBX3.out ?_)
    refine HRT.out.mono ?_
    intro e w4 hag
    obtain ⟨rfl, q4, c4, b4, D4, s4, l4, sf4, y4, z4, d4, g1, g2, g3, g4, g5, g6, g7, g8⟩ := hag.stands hF
    have HBL4 := hideF (HBL3.out.trans g8)
    go_wp2
    go_ret
    exact ⟨rfl, q4, c4, b4, D4, s4, l4, sf4, y4, z4, d4, g1, g2, g3, g4, g5, g6, g7, HBL4.out⟩
end Go.Proofs.YtcpldcojckhapaaGreat

set_option maxRecDepth 100000
namespace Go.Proofs.YtcpldcojckhapaaGreat
open Go.RowKit
structure Full (w : World) (B : Nat) (c : Nat -> Nat) (q : Plc) (kb m : Nat) (b : Bks) (F : Cf) (D : Dev) (s : Ls) (left : List (List Int)) (safe : Nat) (ys : Nat -> ByteArray) (zs : Nat -> Bool) (nd : Nat) (d : ByteArray) : Prop where
  sb : StB w B c q kb m b F D s left safe ys zs nd
  dv : DevC w B c q D
  sim : Sim F.z F.sec nd D s left safe d
  ok : DevOk D
  ar : D.arr <= 900000
  ll : ∀ l ∈ left, l.length <= 1000
theorem Full.stands {w0 w : World} {B : Nat} {c : Nat -> Nat} {q q0 : Plc} {kb m : Nat} {b : Bks} {F : Cf} {D : Dev} {s : Ls} {left : List (List Int)} {safe : Nat} {ys : Nat -> ByteArray} {zs : Nat -> Bool} {nd : Nat} {d : ByteArray} (h : Full w B c q kb m b F D s left safe ys zs nd d) (hg : q.g = q0.g) (hb : Below B w0 w) : Stands w0 w B q0 kb m F nd :=
  ⟨q, c, b, D, s, left, safe, ys, zs, d, h.sb, h.dv, h.sim, h.ok, h.ar, h.ll, hg, hb⟩
theorem Stands.full {w0 w : World} {B : Nat} {q0 : Plc} {kb m : Nat} {F : Cf} {nd : Nat} (h : Stands w0 w B q0 kb m F nd) : ∃ q c b D s left safe ys zs d, Full w B c q kb m b F D s left safe ys zs nd d /\ q.g = q0.g /\ Below B w0 w := by
  obtain ⟨q, c, b, D, s, left, safe, ys, zs, d, h1, h2, h3, h4, h5, h6, h7, h8⟩ := h
  exact ⟨q, c, b, D, s, left, safe, ys, zs, d, ⟨h1, h2, h3, h4, h5, h6⟩, h7, h8⟩
theorem Full.below {w w' : World} {B : Nat} {c : Nat -> Nat} {q : Plc} {kb m : Nat} {b : Bks} {F : Cf} {D : Dev} {s : Ls} {left : List (List Int)} {safe : Nat} {ys : Nat -> ByteArray} {zs : Nat -> Bool} {nd : Nat} {d : ByteArray} (h : Full w B c q kb m b F D s left safe ys zs nd d) (hb : Below w.heap.size w w') : Full w' B (nc w' B (colN w c 9)) q kb m b F D s left safe ys zs nd d :=
  ⟨h.sb.below hb, (h.dv.frame h.sb.nr (Fc.of_below (k := 9) hb) (colN_agr w c 9) (by decide)).nc, h.sim, h.ok, h.ar, h.ll⟩
theorem Full.kp {w : World} {B : Nat} {c : Nat -> Nat} {q : Plc} {kb m : Nat} {b : Bks} {F : Cf} {D : Dev} {s : Ls} {left : List (List Int)} {safe : Nat} {ys : Nat -> ByteArray} {zs : Nat -> Bool} {nd : Nat} {d : ByteArray} (h : Full w B c q kb m b F D s left safe ys zs nd d) : D.kp 0 = F.c /\ D.kp 2 = F.h := by rw [h.sb.cf.kp]; exact ⟨rfl, rfl⟩
set_option maxHeartbeats 4000000 in
theorem do_power (w : World) (B : Nat) (c : Nat -> Nat) (q : Plc) (kb m : Nat) (b : Bks) (F : Cf) (D : Dev) (s : Ls) (left : List (List Int)) (safe : Nat) (ys : Nat -> ByteArray) (zs : Nat -> Bool) (nd : Nat) (d : ByteArray) (o : OpV) (h : Full w B c q kb m b F D s left safe ys zs nd d) (hF : CfOk F) (hm : m <= 700000) (hnd : 2 * F.sec <= nd /\ nd <= 64) (ho : OpR o) (hk : o.kind = 8) :
    Calls Tryz.prog 9 #[.pointer (some ⟨q.g, 0, none⟩), .agg (opA o), .pointer (some ⟨kb, 0, none⟩)] w fun e w' => e = .returned (.bool true) /\ Stands w w' B q kb (m + 10) F nd := by
  obtain ⟨hs1, hs3, _⟩ := Cf.sec_le hF
  have hnd0 : 0 < nd := by have := hnd.1; omega
  have hB := h.sb.bk.bk.lo.2
  obtain ⟨X, hX⟩ : ∃ X, X = w.alloc (.cells (opA o) 42) := ⟨_, rfl⟩
  have hXb : Below w.heap.size w X := by rw [hX]; exact bel_alloc (Below.refl _ _) _
  have hXg : X.heap[w.heap.size]? = some (.cells (opA o) 42 (0, 0)) := by rw [hX]; exact heap_alloc_new w _
  have hFX := h.below hXb
  obtain ⟨cX, hcX⟩ : ∃ cX, cX = nc X B (colN w c 9) := ⟨_, rfl⟩
  rw [<- hcX] at hFX
  have hc9 : cX w.heap.size = 9 := by rw [hcX]; exact nc_at hB hXg (by decide) (colN_new w c 9 _ (Nat.le_refl _)) (by decide)
  have z0 : X.cell? ⟨w.heap.size, 0, none⟩ = some (.int .i64 8) := by rw [cell_of_row _ _ _ _ _ _ hXg]; show some (Value.int .i64 o.kind) = _; rw [hk]
  have hML : MayLose F.z F.sec nd F.c F.h left s := by have := hFX.sim.lose; rw [hFX.kp.1, hFX.kp.2] at this; exact this
  have HLO := hideF (lost_any X B cX q D s nd o hFX.sb.rg ⟨hnd0, hnd.2⟩ hML.wet hML.size (by rw [hFX.sim.cm.wet]; simp) ho)
  have HML := hideF hML
  have HFX := hideF hFX
  have HXG := hideF hXg
  have HC9 := hideF hc9
  have HBX := hideF (hXb.mono hB)
  clear hML hFX hXg hc9 hcX hXb h hk
  go_enter Tryz.func9, Tryz.ntmps9
  go_upto_region 1 with fail
  rw [<- hX]
  clear hX
  go_wp2_with (refine wpList_load42 rfl 4 rfl w.heap.size rfl o HXG.out ?_)
  refine HLO.out.mono ?_
  rintro e w3 ⟨rfl, f3, c3, hL3, hfz3, hR3, hag3, hf3⟩
  have hbx3 := (hf3.keep _ _ _ HXG.out (.inl (by decide)) (by rw [HC9.out]; decide)).trans HXG.out
  have hS3 : StB w3 B (nc w3 B c3) { q with wt := .slice none 0 0 } kb m b F D { dk := f3, wet := [], least := s.least } left safe ys zs nd := StB.norm (HFX.out.sb.bk.frame hf3 hag3 (by decide)) (HFX.out.sb.rf.frame hf3 hag3 (by decide) (by decide) (by decide)) hR3 HFX.out.sb.lb HFX.out.sb.cf
  have hbl3 : Below B w w3 := HBX.out.trans (hf3.toBelow HFX.out.sb.nr (by decide) HFX.out.sb.bk.bk.lo.2)
  obtain ⟨lat3, st3, d3, hdk3, hix3⟩ := HML.out.lose f3 hL3
  have HRT := hideF (returns_any w3 B _ _ kb m b F D _ left safe ys zs nd lat3 st3 d3 o hS3 hF (by omega) hnd ⟨hfz3, rfl, hdk3⟩ hix3 (by have := HFX.out.sim.le; have := HFX.out.ar; show s.least <= _; omega) ho HFX.out.ll (by have := HFX.out.sim.ll; have := HFX.out.ar; omega))
  have HBX3 := hideF hbx3
  have HBL3 := hideF hbl3
  clear hbx3 hS3 hbl3 hdk3 hix3 hL3 hfz3 hR3 hag3 hf3 HLO z0
  go_wp2_with (refine wpList_load42 rfl 4 rfl w.heap.size rfl o HBX3.out ?_)
  refine HRT.out.mono ?_
  intro e w4 hag
  obtain ⟨rfl, q4, c4, b4, D4, s4, l4, sf4, y4, z4, d4, g1, g2, g3, g4, g5, g6, g7, g8⟩ := hag.stands hF
  have HBL4 := hideF (HBL3.out.trans g8)
  go_wp2
  go_ret
  exact ⟨rfl, q4, c4, b4, D4, s4, l4, sf4, y4, z4, d4, g1, g2, g3, g4, g5, g6, g7, HBL4.out⟩
end Go.Proofs.YtcpldcojckhapaaGreat

set_option maxRecDepth 100000
namespace Go.Proofs.YtcpldcojckhapaaGreat
open Go.RowKit
section
variable {w w' : World} {B : Nat} {c : Nat -> Nat} {q : Plc} {kb m : Nat} {b : Bks} {F : Cf} {D : Dev} {s : Ls} {left : List (List Int)} {safe : Nat} {ys : Nat -> ByteArray} {zs : Nat -> Bool} {nd : Nat} {d : ByteArray}
theorem Full.belowK (h : Full w B c q kb m b F D s left safe ys zs nd d) (hb : Below w.heap.size w w') (k : Nat) : Full w' B (nc w' B (colN w c k)) q kb m b F D s left safe ys zs nd d :=
  ⟨StB.norm (h.sb.bk.frame (k := 9) (Fc.of_below hb) (colN_agr w c k) (by decide)) (h.sb.rf.frame (k := 9) (Fc.of_below hb) (colN_agr w c k) (by decide) (by decide) (by decide)) (h.sb.rg.frame (k := 9) (Fc.of_below hb) (colN_agr w c k) (by decide)) h.sb.lb h.sb.cf, (h.dv.frame h.sb.nr (Fc.of_below (k := 9) hb) (colN_agr w c k) (by decide)).nc, h.sim, h.ok, h.ar, h.ll⟩
theorem Full.book {m' : Nat} {b' : Bks} {v : Value} (h : Full w B c q kb m b F D s left safe ys zs nd d) (h' : BookIn w' B kb m' b') (hs : BookFt w w' kb b b' v) (hv : ∀ g, v.ownBlock = some g -> c g = 1 /\ B <= g /\ g < w.heap.size) : Full w' B (nc w' B (colN w c 1)) q kb m' (b'.trim w') F D s left safe ys zs nd d /\ Fc c 1 w w' := by
  obtain ⟨hB2, hf2⟩ := h.sb.bk.step h' hs hv
  have hag2 := colN_agr w c 1
  exact ⟨⟨StB.norm hB2 (h.sb.rf.frame hf2 hag2 (by decide) (by decide) (by decide)) (h.sb.rg.frame hf2 hag2 (by decide)) h.sb.lb h.sb.cf, (h.dv.frame h.sb.nr hf2 hag2 (by decide)).nc, h.sim, h.ok, h.ar, h.ll⟩, hf2⟩
theorem Full.more {m' : Nat} (h : Full w B c q kb m b F D s left safe ys zs nd d) (hm : m <= m') : Full w B c q kb m' b F D s left safe ys zs nd d := ⟨h.sb.more hm, h.dv, h.sim, h.ok, h.ar, h.ll⟩
end
structure LookAt (w wr : World) (B : Nat) (c' : Nat -> Nat) (q : Plc) (kb m : Nat) (b' : Bks) (F : Cf) (D : Dev) (s : Ls) (left : List (List Int)) (safe : Nat) (ys : Nat -> ByteArray) (zs : Nat -> Bool) (nd : Nat) (d : ByteArray) (o : OpV) (mv : Value) (xs : List Int) : Prop where
  fu : Full wr B c' q kb m b' F D s left safe ys zs nd d
  mo : wr.ownsRow B 3 1 mv xs.length (xs.flatMap encI)
  mc : ∀ g, mv.ownBlock = some g -> c' g = 9
  bx : wr.heap[w.heap.size]? = some (.cells (opA o) 42 (0, 0))
  cb : c' w.heap.size = 9
  bl : Below B w wr
set_option maxHeartbeats 4000000 in
theorem do_look (w : World) (B : Nat) (c : Nat -> Nat) (q : Plc) (kb m : Nat) (b : Bks) (F : Cf) (D : Dev) (s : Ls) (left : List (List Int)) (safe : Nat) (ys : Nat -> ByteArray) (zs : Nat -> Bool) (nd : Nat) (d : ByteArray) (o : OpV) (t : Nat) (h : Full w B c q kb m b F D s left safe ys zs nd d) (hm : m <= 700000) (hk : o.kind = 7) (ha : o.a = (t : Nat)) (ht : t < 4) (hnd0 : 0 < nd) :
    Calls Tryz.prog 9 #[.pointer (some ⟨q.g, 0, none⟩), .agg (opA o), .pointer (some ⟨kb, 0, none⟩)] w fun e w' => e = .returned (.bool true) /\ ∃ c' b', Full w' B c' q kb (m + 2) b' F D s left safe ys zs nd d /\ Below B w w' := by
  have hB := h.sb.bk.bk.lo.2
  have hz60 := h.ok.sz t ht
  obtain ⟨X, hX⟩ : ∃ X, X = w.alloc (.cells (opA o) 42) := ⟨_, rfl⟩
  have hXb : Below w.heap.size w X := by rw [hX]; exact bel_alloc (Below.refl _ _) _
  have hXg : X.heap[w.heap.size]? = some (.cells (opA o) 42 (0, 0)) := by rw [hX]; exact heap_alloc_new w _
  have hFX := h.below hXb.drew
  obtain ⟨cX, hcX⟩ : ∃ cX, cX = nc X.drew B (colN w c 9) := ⟨_, rfl⟩
  rw [<- hcX] at hFX
  have hc9 : cX w.heap.size = 9 := by rw [hcX]; exact nc_at (w := X.drew) hB hXg (by decide) (colN_new w c 9 _ (Nat.le_refl _)) (by decide)
  have z0 : X.cell? ⟨w.heap.size, 0, none⟩ = some (.int .i64 7) := by rw [cell_of_row _ _ _ _ _ _ hXg]; show some (Value.int .i64 o.kind) = _; rw [hk]
  have z2 : X.cell? ⟨w.heap.size, 2, none⟩ = some (.int .i64 (t : Nat)) := by rw [cell_of_row _ _ _ _ _ _ hXg]; show some (Value.int .i64 o.a) = _; rw [ha]
  obtain ⟨_, _, _, _, _, _, _, k1, _, _, _, _, _, _, _, _, _, _, _, _, _, hgl⟩ := hFX.sb.cells hnd0
  have k1' : X.cell? ⟨q.g, 1, none⟩ = some (.pointer (some ⟨q.p.r, 0, none⟩)) := k1
  have hgl' : q.g < X.heap.size := hgl
  have hXl := lt_of_block hXg
  obtain ⟨xs, hxs⟩ : ∃ xs, xs = (List.range (D.sz t)).map (D.ent t) := ⟨_, rfl⟩
  have hxl : xs.length = D.sz t := by rw [hxs]; simp
  have HRL := hideF (rlook_any X.drew B cX q.p D left safe ys zs t hFX.sb.rf ht hz60)
  rw [<- hxs, <- hxl] at HRL
  have HFX := hideF hFX
  have HXG := hideF hXg
  have HC9 := hideF hc9
  have HBX := hideF (hXb.drew.mono hB)
  have HXS := hideF hxs
  have HXL := hideF hxl
  clear hFX hXg hc9 hcX hXb h hk hxs hxl k1 hgl
  go_enter Tryz.func9, Tryz.ntmps9
  go_upto_region 1 with fail
  rw [<- hX]
  clear hX
  go_upto_region 24 with fail
  go_cut [16, 17] from 150 to 159 (fun mv e wx => e = .int .i64 0 /\ ∃ c' b', LookAt w wx B c' q kb m b' F D s left safe ys zs nd d o mv xs)
  case first =>
    go_region_held3 (fun w' => w'.cell? ⟨q.g, 1, none⟩ = some (.pointer (some ⟨q.p.r, 0, none⟩)) /\ w'.cell? ⟨w.heap.size, 2, none⟩ = some (.int .i64 (t : Nat))) (go_keep)
      (first
        | (go_at_call 38; refine HRL.out.mono ?_; rintro e w6 ⟨v, rfl, hov, hb6⟩; have f1 := ((bcell hb6).1 _ _ (show q.g < X.drew.heap.size from hgl')).trans k1'; have f2 := ((bcell hb6).1 _ _ (show w.heap.size < X.drew.heap.size from hXl)).trans z2))
    have hFu := HFX.out.below hb6
    have hbx6 := (hb6.block _ (show w.heap.size < X.drew.heap.size from hXl)).trans HXG.out
    have HLA : Hid (LookAt w w6 B _ q kb m b F D s left safe ys zs nd d o v xs) := ⟨hFu, own_base hov (by show B <= X.heap.size; omega), nc_row hov (by show B <= X.heap.size; omega) (by decide) (by decide) (fun g hg => colN_new _ _ 9 g (hov.lt g hg).1), hbx6, nc_at hB hbx6 (by decide) ((colN_agr X.drew cX 9 _ hXl).trans HC9.out) (by decide), HBX.out.trans (hb6.mono (by show B <= X.heap.size; omega))⟩
    go_wp2
    go_meet
    exact ⟨rfl, _, _, HLA.out⟩
  case rest =>
    obtain ⟨rfl, c1, b1, hla⟩ := hcut
    obtain ⟨am, km, rfl, _⟩ := own_view hla.mo
    have HLA := hideF hla
    clear hla z0 z2 k1' hgl' hXl HRL HFX HXG HC9 HBX
    go_wp2_with fail
    go_loopw [18, 19, 20, 21] (fun jv _ _ _ wr => ∃ (j : Nat) (c' : Nat -> Nat) (b' : Bks), jv = .int .i64 (j : Nat) /\ j <= 2 /\ LookAt w wr B c' q kb (m + j) b' F D s left safe ys zs nd d o (.slice am xs.length km) xs) (fun jv _ _ _ _ => 2 - (intOf jv).toNat)
    case atStart => exact ⟨0, c1, b1, rfl, by omega, HLA.out⟩
    case round =>
      obtain ⟨j, c', b', rfl, hj, hla⟩ := hrel
      by_cases hj2 : j < 2
      . have hBr : B <= wr.heap.size := hla.fu.sb.bk.bk.lo.2
        have hdi := (hla.fu.dv.frame hla.fu.sb.nr (Fc.of_below (k := 9) (Below.refl wr.heap.size wr).drew) (Agr.refl _ _) (by decide)).inn
        have hxl := HXL.out
        have HLK := hideF (look_any q.d q.L q.S t q.E q.wv D xs wr.drew hdi ht hxl (by omega) (fun i x hi => by rw [HXS.out, List.getElem?_map] at hi; obtain ⟨y, h2, rfl⟩ := Option.map_eq_some_iff.1 hi; obtain ⟨h3, h4⟩ := List.getElem?_eq_some_iff.1 h2; simp at h3 h4; rw [h4]))
        rw [<- hxl] at HLK
        obtain ⟨_, _, _, _, _, _, k0, _, _, _, _, _, _, _, _, _, _, _, _, _, _, hgl⟩ := hla.fu.sb.cells hnd0
        have z2 : wr.cell? ⟨w.heap.size, 2, none⟩ = some (.int .i64 (t : Nat)) := by rw [cell_of_row _ _ _ _ _ _ hla.bx]; show some (Value.int .i64 o.a) = _; rw [ha]
        have hbl := lt_of_block hla.bx
        have HL := hideF hla
        clear hla hdi hxl
        go_wp2_with fail
        go_region_held3 (fun w' => w'.cell? ⟨q.g, 0, none⟩ = some (.pointer (some ⟨q.d, 0, none⟩)) /\ w'.cell? ⟨w.heap.size, 2, none⟩ = some (.int .i64 (t : Nat))) (go_keep)
          (first
            | (go_at_call 14; refine HLK.out.mono ?_; rintro e w6 ⟨v, rfl, hov, hb6⟩; have f1 := ((bcell hb6).1 _ _ (show q.g < wr.drew.heap.size from hgl)).trans k0; have f2 := ((bcell hb6).1 _ _ (show w.heap.size < wr.drew.heap.size from hbl)).trans z2))
        obtain ⟨av, kv, rfl, _⟩ := own_view hov
        have hb6' := below_then_drew1 hb6
        have hmo6 := ownsRow_below HL.out.mo hb6'
        have HSI := hideF (sameInts_any xs xs _ _ _ _ w6 hov hmo6 (by have := HXL.out; omega) (by have := HXL.out; omega))
        have HOV := hideF hov
        have HB6 := hideF hb6'
        have hs6 := hb6'.size
        clear hov hb6 hb6' hmo6 f1 f2 k0 z2
        go_wp2_with fail
        refine HSI.out.mono ?_
        rintro e w7 ⟨rfl, hb7⟩
        have hb67 := bel_then HB6.out hb7
        have hF7 := HL.out.fu.belowK hb67 1
        have hov7 := ownsRow_below HOV.out hb7
        have hc7 := nc_row (B := B) hov7 (by show B <= wr.heap.size; exact hBr) (by decide) (show (1 : Nat) ≠ 0 by decide) (fun g hg => colN_new wr c' 1 g (hov7.lt g hg).1)
        have hmo7 := ownsRow_below HL.out.mo hb67
        have hmc7 := nc_row (B := B) hmo7 (Nat.le_refl _) (by decide) (show (9 : Nat) ≠ 0 by decide) (fun g hg => (colN_agr wr c' 1 g (HL.out.mo.lt g hg).2).trans (HL.out.mc g hg))
        have hbx7 := (hb67.block _ hbl).trans HL.out.bx
        have hBw : B <= w.heap.size := by have := HL.out.bl; exact hB
        have hcb7 : nc w7 B (colN wr c' 1) w.heap.size = 9 := nc_at hBw hbx7 (by decide) ((colN_agr wr c' 1 _ hbl).trans HL.out.cb) (by decide)
        have HBI := hideF (book_int w7 B kb (m + j) b' (.slice av xs.length kv) xs hF7.sb.bk.bk (by omega) (own_base hov7 (by show B <= wr.heap.size; exact hBr)) (by have := HXL.out; omega) (fun g hg hb => by have h1 := HL.out.fu.sb.bk.bk.here g hb; have h2 : wr.heap.size <= g := (hov7.lt g hg).1; omega))
        have HF7 := hideF hF7
        have HOV7 := hideF hov7
        have HC7 := hideF hc7
        have HMO7 := hideF hmo7
        have HMC7 := hideF hmc7
        have HBX7 := hideF hbx7
        have HCB7 := hideF hcb7
        have HBL7 := hideF (HL.out.bl.trans (hb67.mono hBr))
        have edt : decide (xs = xs) = true := by simp
        clear hb7 hb67 hF7 hov7 hc7 hmo7 hmc7 hbx7 hcb7
        go_wp2_with fail
        refine HBI.out.mono ?_
        rintro e w8 ⟨rfl, b8, hbk8, hst8, _, _⟩
        obtain ⟨hF8, hf8⟩ := HF7.out.book hbk8 hst8.ft (fun g hg => ⟨HC7.out g hg, by have h2 : wr.heap.size <= g := (HOV7.out.lt g hg).1; omega, (HOV7.out.lt g hg).2⟩)
        have hmo8 := hf8.own HMO7.out (by decide) (fun g hg => by rw [HMC7.out g hg]; decide)
        have hbx8 := (hf8.keep _ _ _ HBX7.out (.inl (by decide)) (by rw [HCB7.out]; decide)).trans HBX7.out
        have HLA8 : Hid (LookAt w w8 B (nc w8 B (colN w7 (nc w7 B (colN wr c' 1)) 1)) q kb (m + j + 1) (b8.trim w8) F D s left safe ys zs nd d o (.slice am xs.length km) xs) := ⟨hF8, hmo8, nc_row (B := B) hmo8 (Nat.le_refl _) (by decide) (show (9 : Nat) ≠ 0 by decide) (fun g hg => (colN_agr w7 _ 1 g (HMO7.out.lt g hg).2).trans (HMC7.out g hg)), hbx8, nc_at hBw hbx8 (by decide) ((colN_agr w7 _ 1 _ (lt_of_block HBX7.out)).trans HCB7.out) (by decide), HBL7.out.trans (hf8.toBelow HF7.out.sb.nr (by decide) HF7.out.sb.bk.bk.lo.2)⟩
        clear hbk8 hst8 hF8 hf8 hmo8 hbx8
        go_wp2
        go_roundw
        case rel => exact ⟨j + 1, _, _, by go_num, by omega, HLA8.out⟩
        case measure => simp [intOf]; omega
      . obtain rfl : j = 2 := by omega
        have HL := hideF hla
        clear hla
        go_wp2
        go_ret
        exact ⟨rfl, c', b', HL.out.fu, HL.out.bl⟩
end Go.Proofs.YtcpldcojckhapaaGreat

set_option maxRecDepth 100000
namespace Go.Proofs.YtcpldcojckhapaaGreat
theorem runL_least : ∀ (n : Nat) (W : List (Int × Int × ByteArray)) (A : List (Int × Int × Int × ByteArray)) (s : Ls) (M : Nat), s.least <= M -> (∀ x ∈ W, x.1 <= (M : Int)) -> (runL n W A s).least <= M := by
  intro n
  induction n with
  | zero => intro W A s M h _; rw [runL]; exact h
  | succ n ih =>
    intro W A s M h hW
    cases A with
    | nil => rw [runL]; exact h
    | cons a A =>
      rw [runL]
      split
      . exact ih W A _ M h hW
      . split
        . exact ih W A (syncL s) M h hW
        . refine ih W.tail A _ M ?_ (fun x hx => hW x (List.mem_of_mem_tail hx))
          show max s.least (W.headD (0, 0, ⟨#[]⟩)).1.toNat <= M
          have : (W.headD (0, 0, ⟨#[]⟩)).1 <= (M : Int) := by
            cases W with
            | nil => show (0 : Int) <= _; omega
            | cons x W => exact hW x List.mem_cons_self
          omega
theorem takeP_wait (D : Dev) (i m u : Nat) (s : ByteArray) : ∀ x ∈ (takeP D i m u s).1.wait, x ∈ D.wait ∨ x = ansP D i m s := by
  unfold takeP
  split
  . exact fun x hx => .inl hx
  . split
    . exact fun x hx => .inl hx
    . split
      . unfold flushP
        split
        . exact fun x hx => by rcases List.mem_append.1 hx with h | h; exact .inl h; exact .inr (List.mem_singleton.1 h)
        . exact fun x hx => by cases hx
      . exact fun x hx => by rcases List.mem_append.1 hx with h | h; exact .inl h; exact .inr (List.mem_singleton.1 h)
theorem takeW_mem (D : Dev) (i m u : Nat) (s : ByteArray) : ∀ x ∈ takeW D i m u s, u = D.unit /\ (x ∈ D.wait ∨ x = ansP D i m s) := by
  unfold takeW
  split
  . intro x hx; cases hx
  . rename_i hu
    have hu' : u = D.unit := Classical.byContradiction hu
    split
    . exact fun x hx => ⟨hu', .inr (List.mem_singleton.1 hx)⟩
    . split
      . exact fun x hx => ⟨hu', by rcases List.mem_append.1 hx with h | h; exact .inl h; exact .inr (List.mem_singleton.1 h)⟩
      . intro x hx; cases hx
theorem takeP_acts {D : Dev} (i m u : Nat) (s : ByteArray) (hs : D.sec <= 3) : (takeP D i m u s).2.length + (takeP D i m u s).1.wait.length <= D.wait.length + 5 := by
  unfold takeP
  split
  . simp
  . split
    . rename_i h0
      show 1 + D.wait.length <= _
      omega
    . rename_i h0
      split
      . unfold flushP
        rw [if_neg (show ¬ (midP D s).uns = 0 from h0)]
        show (saveA D.sec _ _ _ ++ List.map sendOf (D.wait ++ [ansP D i m s])).length + 0 <= _
        rw [List.length_append, saveA_len, List.length_map, List.length_append, List.length_singleton]
        omega
      . show 0 + (D.wait ++ [ansP D i m s]).length <= _
        rw [List.length_append, List.length_singleton]
        omega
structure Many (D : Dev) (i : Nat) (left : List (List Int)) (safe : Nat) (fs : List (Nat × Nat × ByteArray)) (R : Dev × List (Int × Int × ByteArray) × List (List Int) × Nat) (T : Dev × List (Int × Int × Int × ByteArray)) : Prop where
  same : R.1 = T.1
  ok : DevOk T.1
  sam : Same D T.1
  num : ∀ x ∈ R.2.1, 0 <= x.1 /\ x.1 <= (T.1.arr : Int)
  wai : ∀ x ∈ T.1.wait, 0 <= x.1
  acts : T.2.length + T.1.wait.length <= D.wait.length + 5 * fs.length
  arr : T.1.arr <= D.arr + fs.length
  ll : ∀ l ∈ R.2.2.1, l.length <= 1000
  wl : R.2.1.length <= 9 * fs.length
theorem many {D : Dev} (hok : DevOk D) (i : Nat) (left : List (List Int)) (safe : Nat) (hw : ∀ x ∈ D.wait, 0 <= x.1) (hs : D.sec <= 3) (hl : ∀ l ∈ left, l.length <= 1000) : ∀ (r fs : List (Nat × Nat × ByteArray)), fs = r.reverse -> Many D i left safe fs (refsP D i left safe fs) (takesP D i fs) := by
  intro r
  induction r with
  | nil => rintro fs rfl; exact ⟨rfl, hok, Same.refl D, by simp [refsP], hw, by simp [takesP], by simp [takesP], hl, by simp [refsP]⟩
  | cons f r ih =>
    rintro fs rfl
    rw [List.reverse_cons, refsP_snoc, takesP_snoc]
    have h := ih r.reverse rfl
    obtain ⟨R, hR⟩ : ∃ R, R = refsP D i left safe r.reverse := ⟨_, rfl⟩
    obtain ⟨T, hT⟩ : ∃ T, T = takesP D i r.reverse := ⟨_, rfl⟩
    rw [<- hR, <- hT] at h ⊢
    rw [h.same]
    have harr := takeP_arr T.1 i f.1 f.2.1 f.2.2
    have hansN : (ansP T.1 i f.1 f.2.2).1 = ((T.1.arr + 1 : Nat) : Int) := rfl
    have hle : T.1.arr <= (takeP T.1 i f.1 f.2.1 f.2.2).1.arr := by rw [harr]; split <;> omega
    refine ⟨rfl, takeP_ok h.ok _ _ _ _, h.sam.trans (takeP_same T.1 i f.1 f.2.1 f.2.2).1, fun x hx => ?_, fun x hx => ?_, ?_, ?_, fun l hx => ?_, ?_⟩
    . rcases List.mem_append.1 hx with g | g
      . have := h.num x g
        show 0 <= x.1 /\ x.1 <= ((takeP T.1 i f.1 f.2.1 f.2.2).1.arr : Int)
        omega
      . obtain ⟨hu, g⟩ := takeW_mem T.1 i f.1 f.2.1 f.2.2 x g
        show 0 <= x.1 /\ x.1 <= ((takeP T.1 i f.1 f.2.1 f.2.2).1.arr : Int)
        have ha : (takeP T.1 i f.1 f.2.1 f.2.2).1.arr = T.1.arr + 1 := by rw [harr, if_neg (fun e => e hu)]
        rcases g with g | g
        . have := h.wai x g; have := h.ok.top x g; omega
        . rw [g, hansN]; omega
    . rcases takeP_wait T.1 i f.1 f.2.1 f.2.2 x hx with g | g
      . exact h.wai x g
      . rw [g, hansN]; omega
    . have h1 := takeP_acts (D := T.1) i f.1 f.2.1 f.2.2 (by rw [h.sam.sec]; exact hs)
      have h2 := h.acts
      show (T.2 ++ (takeP T.1 i f.1 f.2.1 f.2.2).2).length + (takeP T.1 i f.1 f.2.1 f.2.2).1.wait.length <= _
      rw [List.length_append, List.length_append, List.length_singleton]
      omega
    . have h2 := h.arr
      show (takeP T.1 i f.1 f.2.1 f.2.2).1.arr <= _
      rw [harr, List.length_append, List.length_singleton]
      split <;> omega
    . have hx' : l ∈ takeL T.1 f.2.1 f.2.2 R.2.2.1 := hx
      unfold takeL at hx'
      split at hx'
      . exact h.ll l hx'
      . rcases List.mem_append.1 hx' with g | g
        . exact h.ll l g
        . rw [List.mem_singleton.1 g, keptL_len]
          have := h.ok.kp0
          have := h.ok.kp2
          have := h.ok.sz 0 (by omega)
          have := h.ok.sz 2 (by omega)
          omega
    . have h1 := takeW_len h.ok i f.1 f.2.1 f.2.2
      have h2 := h.wl
      show (R.2.1 ++ takeW T.1 i f.1 f.2.1 f.2.2).length <= _
      rw [List.length_append, List.length_append, List.length_singleton]
      omega
end Go.Proofs.YtcpldcojckhapaaGreat
