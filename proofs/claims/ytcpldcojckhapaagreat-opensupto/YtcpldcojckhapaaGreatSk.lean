/-
  
-/
import Derived.Test.YtcpldcojckhapaaGreatSi
import Derived.Test.YtcpldcojckhapaaGreatJ49
set_option maxRecDepth 100000
namespace Go.Proofs.YtcpldcojckhapaaGreat
open Go.RowKit
theorem in64_0 : In64 0 := ⟨by decide, by decide⟩
theorem in64_m : In64 (-1) := ⟨by decide, by decide⟩
theorem kept_at (e : Nat -> Nat -> Int) (c h i : Nat) (hi : i < c + h) : (keptL e c h)[i]? = some (if i < c then e 0 i else e 2 (i - c)) := by
  unfold keptL
  by_cases hc : i < c
  . rw [List.getElem?_append_left (by simpa using hc), if_pos hc, List.getElem?_map, List.getElem?_range hc]; rfl
  . rw [List.getElem?_append_right (by simpa using hc), if_neg hc, List.getElem?_map, List.length_map, List.length_range, List.getElem?_range (by omega)]; rfl
theorem take_snoc {α : Type} (l : List α) (i : Nat) (x : α) (h : l[i]? = some x) : l.take (i + 1) = l.take i ++ [x] := by
  rw [List.take_add_one, h]; rfl
structure Opd (w wx : World) (kb : Nat) (c : Nat -> Nat) (b : Bks) (cv ov : Array Value) (q1 : Plc) (D : Dev) (A : List (Int × Int × Int × ByteArray)) (av : Value) : Prop where
  bk : BkC wx (w.heap.size + 2) c kb 10 b
  nr : Nrm wx (w.heap.size + 2) c
  dv : DevC wx (w.heap.size + 2) c q1 D
  ow : wx.ownsRow (w.heap.size + 2) 77 4 av A.length (A.flatMap encA)
  co : ∀ g, av.ownBlock = some g -> c g = 9
  b0 : wx.heap[w.heap.size]? = some (.cells cv 39 (0, 0))
  b1 : wx.heap[w.heap.size + 1]? = some (.cells ov 42 (0, 0))
  bl : Below w.heap.size w wx
theorem Opd.bel {w wx wy : World} {kb : Nat} {c : Nat -> Nat} {b : Bks} {cv ov : Array Value} {q1 : Plc} {D : Dev} {A : List (Int × Int × Int × ByteArray)} {av : Value} (h : Opd w wx kb c b cv ov q1 D A av) (k : Nat) (hb : Below wx.heap.size wx wy) : Opd w wy kb (nc wy (w.heap.size + 2) (colN wx c k)) b cv ov q1 D A av := by
  have how := ownsRow_below h.ow hb
  exact ⟨(h.bk.frame (k := 9) (Fc.of_below hb) (colN_agr wx c k) (by decide)).nc, nc_nrm _ _ _, (h.dv.frame h.nr (Fc.of_below (k := 9) hb) (colN_agr wx c k) (by decide)).nc, how, nc_row how (Nat.le_refl _) (by decide) (by decide) (fun g hg => (colN_agr wx c k g (h.ow.lt g hg).2).trans (h.co g hg)), (hb.block _ (lt_of_block h.b0)).trans h.b0, (hb.block _ (lt_of_block h.b1)).trans h.b1, bel_then h.bl hb⟩
theorem opd_call (w w6 : World) (c6 : Nat -> Nat) (b6 : Bks) (ov : Array Value) (F : Cf) (k nd k2 : Nat) (ad a2 : Option Addr) (f : Nat -> ByteArray) (hi : OpIn w ad a2 F.n k nd k2 (fun j => ((F.kn j : Nat) : Int)) f) (hF : CfOk F) (hnd : 2 * F.sec <= nd /\ nd <= 64) (hfz : ∀ j, j < nd -> (f j).size = 64)
    (h : Hd w w6 (w.heap.size + 2) c6 b6 #[.int .i64 (F.s0 : Nat), .int .i64 (F.s1 : Nat), .int .i64 (F.s2 : Nat), .int .i64 (F.s3 : Nat), .int .i64 (F.c : Nat), .int .i64 (F.h : Nat), .int .i64 (F.u : Nat), .slice ad F.n k, .int .i64 (F.b : Nat)] ov) :
    Calls Tryz.prog 13 #[.agg #[.int .i64 (F.s0 : Nat), .int .i64 (F.s1 : Nat), .int .i64 (F.s2 : Nat), .int .i64 (F.s3 : Nat), .int .i64 (F.c : Nat), .int .i64 (F.h : Nat), .int .i64 (F.u : Nat), .slice ad F.n k, .int .i64 (F.b : Nat)], .slice a2 nd k2, .pointer (some ⟨w.heap.size + 2, 0, none⟩)] w6 fun e w' => ∃ q1 av b' c' N, e = .returned (.tuple #[.pointer (some ⟨q1.d, 0, none⟩), av, .int .i64 0, .bool true]) /\ Opd w w' (w.heap.size + 2) c' b' #[.int .i64 (F.s0 : Nat), .int .i64 (F.s1 : Nat), .int .i64 (F.s2 : Nat), .int .i64 (F.s3 : Nat), .int .i64 (F.c : Nat), .int .i64 (F.h : Nat), .int .i64 (F.u : Nat), .slice ad F.n k, .int .i64 (F.b : Nat)] ov q1 (F.dev N (latC f F.sec) (stC f F.sec) (dataC F.z F.sec f)) (readyA f F.sec (latC f F.sec) (stC f F.sec)) av := by
  have hi6 := hi.bel h.bl
  have hno : ∀ x, x < w.heap.size + 2 -> ¬ b6.on (w.heap.size + 2) x := fun x hx hb => by have := h.bk.hi x hb; omega
  have hB := h.bk.bk.lo.2
  refine (opens_dev w6 (w.heap.size + 2) (w.heap.size + 2) 5 c6 b6 F k nd k2 ad a2 f h.bk h.nr hF (by omega) hi6.hv hi6.hsrc (fun a ha => ⟨hi6.hlt a ha, hno _ (by have := hi.hlt a ha; omega)⟩) hi6.hd hi6.hdt hnd (fun a ha => ⟨hi6.hlt2 a ha, hno _ (by have := hi.hlt2 a ha; omega)⟩) hfz).mono ?_
  rintro e w' ⟨q1, av, b', c', N, rfl, hbk', hnr', hdv', hov', hco', hag, hfc⟩
  have hbl := hfc.toBelow h.nr (by decide) hB
  exact ⟨q1, av, b', c', N, rfl, hbk', hnr', hdv', own_base hov' hB, hco', (hbl.block _ (by omega)).trans h.b0, (hbl.block _ (by omega)).trans h.b1, h.bl.trans (hbl.mono (by omega))⟩
set_option maxHeartbeats 16000000 in
theorem opens_yes (w : World) (F : Cf) (k nd k2 : Nat) (ad a2 : Option Addr) (f : Nat -> ByteArray) (o : OpV) (hi : OpIn w ad a2 F.n k nd k2 (fun j => ((F.kn j : Nat) : Int)) f) (hF : CfOk F) (hnd : 2 * F.sec <= nd /\ nd <= 64) (hfz : ∀ j, j < nd -> (f j).size = 64) (ho : OpR o) (hos : o.s.size <= 1048576) :
    Calls Tryz.prog 4 #[.agg #[.int .i64 (F.s0 : Nat), .int .i64 (F.s1 : Nat), .int .i64 (F.s2 : Nat), .int .i64 (F.s3 : Nat), .int .i64 (F.c : Nat), .int .i64 (F.h : Nat), .int .i64 (F.u : Nat), .slice ad F.n k, .int .i64 (F.b : Nat)], .slice a2 nd k2, .agg (opA o)] w fun e w' => e = .returned (.bool true) /\ Below w.heap.size w w' := by
  obtain ⟨hs1, hs3, _⟩ := Cf.sec_le hF
  have hF0 := hF.s0
  have hF2 := hF.s2
  have hFc := hF.c
  have hFh := hF.h
  have hFn := hF.n
  have hnd0 : 0 < nd := by omega
  obtain ⟨need, hneed⟩ : ∃ need, need = 2 * F.sec := ⟨_, rfl⟩
  have hN : ∀ W, Below w.heap.size w W -> Calls Tryz.prog 12 #[.agg #[.int .i64 (F.s0 : Nat), .int .i64 (F.s1 : Nat), .int .i64 (F.s2 : Nat), .int .i64 (F.s3 : Nat), .int .i64 (F.c : Nat), .int .i64 (F.h : Nat), .int .i64 (F.u : Nat), .slice ad F.n k, .int .i64 (F.b : Nat)]] W fun e w' => e = .returned (.tuple #[.int .i64 (need : Nat), .bool true]) /\ Below W.heap.size W w' := fun W hW => by
    refine (needs_gen (F.s0 : Nat) (F.s1 : Nat) (F.s2 : Nat) (F.s3 : Nat) (F.c : Nat) (F.h : Nat) (F.u : Nat) (F.b : Nat) F.n k ad _ W (hi.hv.bel hW) (by omega)).mono ?_
    rintro e w' ⟨⟨h1, _⟩ | ⟨_, h2⟩, hb⟩
    . refine absurd ⟨fun q hq => ?_, fun j hj => ?_, ?_, ?_, ?_, hFn, ?_⟩ h1
      . have := hF.s1; have := hF.s3
        rcases (show q = 0 ∨ q = 1 ∨ q = 2 ∨ q = 3 by omega) with rfl | rfl | rfl | rfl <;> simp only [szI] <;> simp <;> omega
      . have := hF.kn j hj; omega
      . omega
      . omega
      . have := hF.u; omega
      . have := hF.b; omega
    . refine ⟨?_, hb⟩
      rw [h2, hneed]
      rfl
  obtain ⟨X, hX⟩ : ∃ X, X = ((w.alloc (.cells #[.int .i64 (F.s0 : Nat), .int .i64 (F.s1 : Nat), .int .i64 (F.s2 : Nat), .int .i64 (F.s3 : Nat), .int .i64 (F.c : Nat), .int .i64 (F.h : Nat), .int .i64 (F.u : Nat), .slice ad F.n k, .int .i64 (F.b : Nat)] 39)).alloc (.cells (opA o) 42)).alloc (.cells bookC 33) := ⟨_, rfl⟩
  have HHC := hideF (head_call w _ _ X hX)
  have HI := hideF hi
  have HN := hideF hN
  have HND : Hid (need = 2 * F.sec) := hneed
  unfold bookC at hX
  clear hi hN hneed
  go_enter Tryz.func4, Tryz.ntmps4
  go_upto_region 2 with fail
  rw [<- hX]
  clear hX
  go_wp2_with fail
  refine HHC.out.mono ?_
  rintro e w4 ⟨v4, rfl, hc7⟩
  have HC7 := hideF hc7
  clear hc7 HHC
  go_wp2_with fail
  refine HC7.out.mono ?_
  rintro e w5 ⟨r5, rfl, c5, b5, hH5⟩
  obtain ⟨y0, y1, y2, y3, y4, y5, y6, y7, y8⟩ := cells9 hH5.b0
  have HN5 := hideF (HN.out w5 hH5.bl)
  have HH5 := hideF hH5
  clear hH5 HC7
  go_wp2_with fail
  refine HN5.out.mono ?_
  rintro e w6 ⟨rfl, hb6⟩
  have hH6 := HH5.out.bel hb6
  obtain ⟨z0, z1, z2, z3, z4, z5, z6, z7, z8⟩ := cells9 hH6.b0
  have HO6 := hideF (opd_call w w6 _ b5 (opA o) F k nd k2 ad a2 f HI.out hF hnd hfz hH6)
  clear hH6 HN5 HH5 y0 y1 y2 y3 y4 y5 y6 y7 y8
  go_wp2_with fail
  refine HO6.out.mono ?_
  rintro e w7 ⟨q1, av, b7, c7, N7, rfl, hOp⟩
  obtain ⟨D1, hD1⟩ : ∃ D1, D1 = F.dev N7 (latC f F.sec) (stC f F.sec) (dataC F.z F.sec f) := ⟨_, rfl⟩
  obtain ⟨A, hA⟩ : ∃ A, A = readyA f F.sec (latC f F.sec) (stC f F.sec) := ⟨_, rfl⟩
  rw [<- hD1, <- hA] at hOp
  obtain ⟨ao, ko, rfl, _⟩ := own_view hOp.ow
  have HOP := hideF hOp
  have HD1 := hideF hD1
  have HA := hideF hA
  have HDT := hideF (HI.out.bel hOp.bl).hdt
  have hn1 : ¬ (nd : Int) < (need : Int) := by have := HND.out; omega
  have hn2 : ¬ (64 : Int) < (nd : Int) := by omega
  have hn3 : ¬ (need : Int) = 0 := by have := HND.out; omega
  clear hOp hD1 hA HO6 z0 z1 z2 z3 z4 z5 z6 z7 z8
  go_wp2_with fail
  go_loopw [16, 17] (fun bv iv wr => ∃ i : Nat, bv = .bool false /\ iv = .int .i64 (i : Nat) /\ i <= nd /\ wr = w7) (fun _ iv _ => nd - (intOf iv).toNat)
  case atStart => exact ⟨0, by first | rfl | (simp; omega), rfl, Nat.zero_le _, rfl⟩
  case round =>
    obtain ⟨i, rfl, rfl, hil, rfl⟩ := hrel
    by_cases hin : i < nd
    . obtain ⟨x, oo, rfl, hx2, hx3⟩ := HDT.out i hin
      have HJL : Hid (i + 1 <= nd) := hin
      have HWJ : Hid (wrap64 ((i : Int) + 1) = ((i + 1 : Nat) : Int)) := by show _ = _; simp only [wrap64]; omega
      have hin' : (i : Int) < (nd : Int) := by omega
      have h64' : ((f i).size : Int) = 64 := by have := hfz i hin; omega
      go_wp2
      go_roundw
      case rel => exact ⟨i + 1, rfl, by first | rw [HWJ.out] | rfl, HJL.out, by first | rfl | trivial⟩
      case measure => have := HJL.out; first | (rw [HWJ.out]; simp only [intOf]; omega) | (simp only [intOf]; omega)
    . obtain ⟨w7', hw7⟩ : ∃ x, x = wr := ⟨_, rfl⟩
      have hle : ¬ (i : Int) < (nd : Int) := by omega
      have hl0 := look_any q1.d q1.L q1.S 0 q1.E q1.wv D1 ((List.range F.s0).map (D1.ent 0)) wr HOP.out.dv.inn (by omega) (by rw [HD1.out]; show _ = F.s0; simp) (by rw [HD1.out]; show F.s0 <= _; omega) (fun j x hj => by rw [List.getElem?_map] at hj; obtain ⟨y, h2, rfl⟩ := Option.map_eq_some_iff.1 hj; obtain ⟨h3, h4⟩ := List.getElem?_eq_some_iff.1 h2; simp at h3 h4; rw [h4])
      have hz0 : D1.sz 0 = F.s0 := by rw [HD1.out]; rfl
      have hz2 : D1.sz 2 = F.s2 := by rw [HD1.out]; rfl
      rw [hz0] at hl0
      have HL0 := hideF hl0
      have HL2 : Hid (∀ w8, Below wr.heap.size wr w8 -> Calls Tryz.prog 14 #[.pointer (some ⟨q1.d, 0, none⟩), .int .i64 2] w8 fun e w' => ∃ v, e = .returned (.tuple #[v, .int .i64 0]) /\ w'.ownsRow w8.heap.size 3 1 v F.s2 (((List.range F.s2).map (D1.ent 2)).flatMap encI) /\ Below w8.heap.size w8 w') := fun w8 hb8 => by
        have hdi := (HOP.out.dv.frame HOP.out.nr (Fc.of_below (k := 9) hb8) (Agr.refl _ _) (by decide)).inn
        have := look_any q1.d q1.L q1.S 2 q1.E q1.wv D1 ((List.range F.s2).map (D1.ent 2)) w8 hdi (by omega) (by rw [hz2]; simp) (by rw [hz2]; omega) (fun j x hj => by rw [List.getElem?_map] at hj; obtain ⟨y, h2, rfl⟩ := Option.map_eq_some_iff.1 hj; obtain ⟨h3, h4⟩ := List.getElem?_eq_some_iff.1 h2; simp at h3 h4; rw [h4])
        rw [hz2] at this
        exact this
      clear hl0 hz0 hz2 hw7
      go_wp2_with fail
      refine HL0.out.mono ?_
      rintro e w8 ⟨v8, rfl, ho8, hb8⟩
      obtain ⟨a8, p8, rfl, hv8⟩ := own_view ho8
      have HB8 := hideF hb8
      have HV8 := hideF hv8
      have HO8 := hideF ho8
      clear ho8 hb8 hv8
      go_wp2_with fail
      refine (HL2.out w8 HB8.out).mono ?_
      rintro e w9 ⟨v9, rfl, ho9, hb9⟩
      obtain ⟨a9, p9, rfl, hv9⟩ := own_view ho9
      have hP9 := HOP.out.bel 9 (bel_then HB8.out hb9)
      obtain ⟨z0, z1, z2, z3, z4, z5, z6, z7, z8⟩ := cells9 hP9.b0
      have HP9 := hideF hP9
      have HV9 := hideF hv9
      have HO8' := hideF (ownsRow_below HO8.out hb9)
      have HO9 := hideF ho9
      clear hP9 ho9 hb9 hv9 HO8 HV8
      have hl9 : w.heap.size < w9.heap.size := lt_of_block HP9.out.b0
      have hB9 : w.heap.size + 2 <= w9.heap.size := HP9.out.bk.bk.lo.2
      obtain ⟨_, _, e8, hv8⟩ := own_view HO8'.out
      simp only [Value.slice.injEq, true_and] at e8
      obtain ⟨rfl, rfl⟩ := e8
      obtain ⟨_, _, e9, hv9⟩ := own_view HO9.out
      simp only [Value.slice.injEq, true_and] at e9
      obtain ⟨rfl, rfl⟩ := e9
      have HV8 : Hid (∀ j, j < F.s0 -> ∃ g, a8 = some ⟨g, 0, none⟩ /\ g < w9.heap.size /\ w9.cell? ⟨g, j, none⟩ = some (.int .i64 (D1.ent 0 j))) := fun j hj => by
        obtain ⟨g, h1, h2, h3⟩ := hv8 j hj
        exact ⟨g, h1, h2, (h3 j (by omega)).trans (encI_at _ j _ (by rw [List.getElem?_map, List.getElem?_range hj]; rfl))⟩
      have HV9' : Hid (∀ j, j < F.s2 -> ∃ g, a9 = some ⟨g, 0, none⟩ /\ g < w9.heap.size /\ w9.cell? ⟨g, j, none⟩ = some (.int .i64 (D1.ent 2 j))) := fun j hj => by
        obtain ⟨g, h1, h2, h3⟩ := hv9 j hj
        exact ⟨g, h1, h2, (h3 j (by omega)).trans (encI_at _ j _ (by rw [List.getElem?_map, List.getElem?_range hj]; rfl))⟩
      have HEN : Hid (EntOk D1.ent) := by rw [HD1.out]; exact entC_ok _ _ _
      obtain ⟨K, hK⟩ : ∃ K, K = keptL D1.ent F.c F.h := ⟨_, rfl⟩
      have HK := hideF hK
      have HKA : Hid (∀ j, j < F.c + F.h -> K[j]? = some (if j < F.c then D1.ent 0 j else D1.ent 2 (j - F.c))) := fun j hj => by rw [hK]; exact kept_at _ _ _ j hj
      have HKL : Hid (K.length = F.c + F.h) := by rw [hK, keptL_len]; rfl
      obtain ⟨i3, hi3, hy0, hy1, hy2⟩ := info_parts Tryz.infoEI
      clear hv8 hv9 hK HL0 HL2 HDT hle hn1 hn2 hn3 HV9
      go_wp2_with fail
      go_loopw [22, 23, 24, 25] (fun kv iv _ _ wr => ∃ j : Nat, iv = .int .i64 (j : Nat) /\ j <= F.c + F.h /\ wr.ownsRow w9.heap.size 3 1 kv j ((K.take j).flatMap encI) /\ Below w9.heap.size w9 wr) (fun _ iv _ _ _ => F.c + F.h - (intOf iv).toNat)
      case atStart => exact ⟨0, rfl, Nat.zero_le _, World.ownsRow_nil _ _ _ _, Below.refl _ _⟩
      case round =>
        obtain ⟨w10, hw10⟩ : ∃ x, x = wr := ⟨_, rfl⟩
        rw [<- hw10] at hrel ⊢
        clear hw10
        obtain ⟨j, rfl, hjl, hok, hbr⟩ := hrel
        have m4 := ((bcell hbr).1 _ 4 hl9).trans z4
        have m5 := ((bcell hbr).1 _ 5 hl9).trans z5
        have hsr := hbr.size
        have hcs : (F.c : Int) + (F.h : Int) <= 120 := by omega
        have HOK := hideF hok
        have HBR := hideF hbr
        by_cases hj : j < F.c + F.h
        . have hj' : (j : Int) < (F.c : Int) + (F.h : Int) := by omega
          have HJL : Hid (j + 1 <= F.c + F.h) := hj
          have HWJ : Hid (wrap64 ((j : Int) + 1) = ((j + 1 : Nat) : Int)) := by show _ = _; simp only [wrap64]; omega
          by_cases hjc : j < F.c
          . have hjc' : (j : Int) < (F.c : Int) := by omega
            obtain ⟨g8, hg1, hg2, hg3⟩ := HV8.out j (by omega)
            subst hg1
            have hgc := ((bcell hbr).1 _ j hg2).trans hg3
            obtain ⟨e1, _, e3⟩ := HEN.out 0 j
            obtain ⟨x, hx⟩ : ∃ x, x = D1.ent 0 j := ⟨_, rfl⟩
            have hx2 := e3 (by omega)
            rw [<- hx] at hgc e1 hx2
            have hxn : ¬ x < 0 := by omega
            have hxm : ¬ 1 < x := by omega
            have hjs : (j : Int) < (F.s0 : Int) := by omega
            have HKJ : Hid (K[j]? = some x) := by show _ = _; rw [HKA.out j hj, if_pos hjc, hx]
            clear hok hbr hg3 hx e3
            go_wp2_with (at_builtin; go_must (refine wpList_append_own _ rfl (.tmp 183) (.tmp 185) 28 rfl w9.heap.size 3 i3 _ 1 8 Tryz.underlying28 hi3 hy0 hy1 hy2 rfl (by decide) _ j _ rfl (HOK.out.alloc _) ⟨w10.heap.size, 0, none⟩ 1 1 [.int .i64 x] rfl rfl (alloc_news w10 [.int .i64 x] 3) (by simp [Value.oneCell']) (by unfold maxLen; omega) (by omega) (by simp; omega) ?_; intro v' w11 hown hgrow _))
            go_roundw
            case rel =>
              refine ⟨j + 1, by go_num, HJL.out, ?_, (bel_alloc HBR.out (.cells #[.int .i64 x] 3)).grown hgrow (by simp; omega) (fun k hk => (HOK.out.lt k hk).1)⟩
              rw [take_snoc K j x HKJ.out, List.flatMap_append]
              exact hown
            case measure => have := HJL.out; simp [intOf]; omega
          . obtain ⟨jj, rfl⟩ : ∃ jj, j = F.c + jj := ⟨j - F.c, by omega⟩
            have hjc' : ¬ ((F.c + jj : Nat) : Int) < (F.c : Int) := by omega
            have hsub : ((F.c + jj : Nat) : Int) - (F.c : Int) = (jj : Int) := by omega
            obtain ⟨g8, hg1, hg2, hg3⟩ := HV9'.out jj (by omega)
            subst hg1
            have hgc := ((bcell hbr).1 _ jj hg2).trans hg3
            obtain ⟨e1, e2, _⟩ := HEN.out 2 jj
            obtain ⟨x, hx⟩ : ∃ x, x = D1.ent 2 jj := ⟨_, rfl⟩
            rw [<- hx] at hgc e1 e2
            have hxn : ¬ x < 0 := by omega
            have hxm : ¬ 65535 < x := by omega
            have hjs : (jj : Int) < (F.s2 : Int) := by omega
            have HKJ : Hid (K[F.c + jj]? = some x) := by show _ = _; rw [HKA.out (F.c + jj) hj, if_neg hjc, hx]; congr 2; omega
            clear hok hbr hg3 hx
            go_wp2_with (at_builtin; go_must (refine wpList_append_own _ rfl (.tmp 183) (.tmp 185) 28 rfl w9.heap.size 3 i3 _ 1 8 Tryz.underlying28 hi3 hy0 hy1 hy2 rfl (by decide) _ (F.c + jj) _ rfl (HOK.out.alloc _) ⟨w10.heap.size, 0, none⟩ 1 1 [.int .i64 x] rfl rfl (alloc_news w10 [.int .i64 x] 3) (by simp [Value.oneCell']) (by unfold maxLen; omega) (by omega) (by simp; omega) ?_; intro v' w11 hown hgrow _))
            go_roundw
            case rel =>
              refine ⟨F.c + jj + 1, by go_num, HJL.out, ?_, (bel_alloc HBR.out (.cells #[.int .i64 x] 3)).grown hgrow (by simp; omega) (fun k hk => (HOK.out.lt k hk).1)⟩
              rw [take_snoc K _ x HKJ.out, List.flatMap_append]
              exact hown
            case measure => have := HJL.out; simp [intOf]; omega
        . obtain rfl : j = F.c + F.h := by omega
          have hj' : ¬ ((F.c + F.h : Nat) : Int) < (F.c : Int) + (F.h : Int) := by omega
          have hok' : w10.ownsRow w9.heap.size 3 1 u22 K.length (K.flatMap encI) := by
            have h1 := HOK.out
            rw [<- HKL.out, List.take_length] at h1
            exact h1
          obtain ⟨ak, pk, rfl, _⟩ := own_view hok'
          obtain ⟨c10, hP10⟩ : ∃ c10, Opd w w10 (w.heap.size + 2) c10 b7 #[.int .i64 (F.s0 : Nat), .int .i64 (F.s1 : Nat), .int .i64 (F.s2 : Nat), .int .i64 (F.s3 : Nat), .int .i64 (F.c : Nat), .int .i64 (F.h : Nat), .int .i64 (F.u : Nat), .slice ad F.n k, .int .i64 (F.b : Nat)] (opA o) q1 D1 A (.slice ao A.length ko) := ⟨_, HP9.out.bel 9 hbr⟩
          obtain ⟨x0, x1, x2, x3, x4, x5, x6, x7, x8⟩ := cells9 hP10.b0
          have hi10 := HI.out.bel hP10.bl
          have HOC := hideF (ownConfig_any (F.s0 : Nat) (F.s1 : Nat) (F.s2 : Nat) (F.s3 : Nat) (F.c : Nat) (F.h : Nat) (F.u : Nat) (F.b : Nat) F.n k ad ((List.range F.n).map (fun j => ((F.kn j : Nat) : Int))) w10 (by simp) (by omega) hi10.hsrc hi10.hlt)
          have HP10 := hideF hP10
          have HOK10 := hideF hok'
          clear hok hok' hbr m4 m5 hcs hP10 hi10 HOK HBR HV8 HV9' HKA HEN z0 z1 z2 z3 z4 z5 z6 z7 z8 hjl hj
          go_wp2_with fail
          refine HOC.out.mono ?_
          rintro e w11 ⟨g7, cap7, rfl, ho7, hb11⟩
          obtain ⟨Y, hY⟩ : ∃ Y, Y = w11.alloc (.cells #[.int .i64 (F.s0 : Nat), .int .i64 (F.s1 : Nat), .int .i64 (F.s2 : Nat), .int .i64 (F.s3 : Nat), .int .i64 (F.c : Nat), .int .i64 (F.h : Nat), .int .i64 (F.u : Nat), .slice (some ⟨g7, 0, none⟩) F.n cap7, .int .i64 (F.b : Nat)] 39) := ⟨_, rfl⟩
          have hs11 := hb11.size
          have hYs : Y.heap.size = w11.heap.size + 1 := by rw [hY]; generalize Obj.cells _ _ = o; simp
          have hYb11 : Below w11.heap.size w11 Y := by rw [hY]; exact bel_alloc (Below.refl _ _) _
          have hYg : Y.heap[w11.heap.size]? = some (.cells #[.int .i64 (F.s0 : Nat), .int .i64 (F.s1 : Nat), .int .i64 (F.s2 : Nat), .int .i64 (F.s3 : Nat), .int .i64 (F.c : Nat), .int .i64 (F.h : Nat), .int .i64 (F.u : Nat), .slice (some ⟨g7, 0, none⟩) F.n cap7, .int .i64 (F.b : Nat)] 39 (0, 0)) := by rw [hY]; exact heap_alloc_new w11 _
          have hYb : Below w10.heap.size w10 Y.drew := (bel_then hb11 hYb11).drew
          obtain ⟨t0, t1, t2, t3, t4, t5, t6, t7, t8⟩ := cells9 hYg
          have hg7 := ho7.lt g7 rfl
          obtain ⟨cl7, hcl7⟩ := own_block ho7 g7 rfl
          have hcl7' : Y.drew.heap[g7]? = some (.cells cl7 3 (0, 0)) := (hYb11.drew.block g7 hg7.2).trans hcl7
          have hB10 : w.heap.size + 2 <= w10.heap.size := HP10.out.bk.bk.lo.2
          obtain ⟨cY, hcY⟩ : ∃ cY, cY = nc Y.drew (w.heap.size + 2) (colN w10 c10 5) := ⟨_, rfl⟩
          have hPY := HP10.out.bel 5 hYb
          rw [<- hcY] at hPY
          have hc75 : cY g7 = 5 := by rw [hcY]; exact nc_at (by omega) hcl7' (by decide) (colN_new w10 c10 5 _ hg7.1) (by decide)
          have hln7 : ∀ j, j < F.n -> Y.drew.cell? ⟨g7, j, none⟩ = some (.int .i64 (F.kn j : Nat)) := fun j hj => by
            have h1 := ho7.cells (g := g7) rfl j (.int .i64 (F.kn j : Nat)) (encI_at _ j _ (by rw [List.getElem?_append_left (by simpa using hj), List.getElem?_map, List.getElem?_range hj]; rfl))
            have e : (⟨g7, 0, none⟩ : Addr).add j = ⟨g7, j, none⟩ := by by_cases h0 : j = 0 <;> simp [Addr.add, h0]
            rw [e] at h1
            exact ((bcell hYb11.drew).1 _ _ hg7.2).trans h1
          have hkp0 : D1.kp 0 = F.c := by rw [HD1.out]; rfl
          have hkp2 : D1.kp 2 = F.h := by rw [HD1.out]; rfl
          have hcf : (.agg (cfgA D1 g7 cap7) : Value) = .agg #[.int .i64 (F.s0 : Nat), .int .i64 (F.s1 : Nat), .int .i64 (F.s2 : Nat), .int .i64 (F.s3 : Nat), .int .i64 (F.c : Nat), .int .i64 (F.h : Nat), .int .i64 (F.u : Nat), .slice (some ⟨g7, 0, none⟩) F.n cap7, .int .i64 (F.b : Nat)] := by rw [HD1.out]; rfl
          have HRO := hideF (ropen_any D1 g7 cap7 (w.heap.size + 2) w9.heap.size cY (.slice ak K.length pk) K Y.drew (fun i hi => by rw [HD1.out]; exact szF_le F.s0 F.s1 F.s2 F.s3 i 60 hF.s0 hF.s1 hF.s2 hF.s3) (by rw [HD1.out]; exact hF.c) (by rw [HD1.out]; exact hF.h) (by rw [HD1.out]; exact hF.n.2) (by rw [hkp0, hkp2, HKL.out]; exact Nat.le_refl _) (ownsRow_below HOK10.out hYb) (fun i k _ => by rw [hkp0, HK.out, HD1.out]; exact (entK_keptL F.c F.h _ i k).symm) ⟨cl7, hcl7'⟩ (fun i hi => by rw [hln7 i (by rw [HD1.out] at hi; exact hi), HD1.out]; rfl) hc75 hPY.bk.bk.lo.2 (by rw [HD1.out]; rfl) (by rw [HD1.out]; rfl))
          rw [hcf] at HRO
          have HPY := hideF hPY
          have HYG := hideF hYg
          have hg7B : w.heap.size + 2 <= g7 := by omega
          clear ho7 hb11 hYb11 hYg hYb hg7 hcl7 hcl7' hcY hPY hc75 hln7 hkp0 hkp2 hcf HOC HOK10 HP10 x0 x1 x2 x3 x4 x5 x6 x7 x8
          go_upto_region 40 with fail
          rw [<- hY]
          clear hY
          go_cut [27] from 189 to 195 (fun gv wx => ∃ (p : Rfm) (c12 : Nat -> Nat) (w12 : World), gv = .pointer (some ⟨w12.heap.size, 0, none⟩) /\ RefIn w12 (w.heap.size + 2) c12 p D1 [keptL D1.ent (D1.kp 0) (D1.kp 2)] 0 (fun _ => ⟨#[]⟩) (fun _ => false) /\ Agr Y.drew cY c12 /\ Below Y.drew.heap.size Y.drew w12 /\ p.lb = g7 /\ p.cap = cap7 /\ wx = w12.alloc (.cells #[.pointer (some ⟨q1.d, 0, none⟩), .pointer (some ⟨p.r, 0, none⟩), .int .i64 (F.s0 : Nat), .int .i64 (F.s1 : Nat), .int .i64 (F.s2 : Nat), .int .i64 (F.s3 : Nat), .int .i64 (F.c : Nat), .int .i64 (F.h : Nat), .int .i64 (F.u : Nat), .slice (some ⟨g7, 0, none⟩) F.n cap7, .int .i64 (F.b : Nat), .slice none 0 0, .slice none 0 0, .int .i64 0] 52))
          case first =>
            go_region_held3 (fun w' => w'.cell? ⟨w11.heap.size, 0, none⟩ = some (.int .i64 (F.s0 : Nat)) /\ w'.cell? ⟨w11.heap.size, 1, none⟩ = some (.int .i64 (F.s1 : Nat)) /\ w'.cell? ⟨w11.heap.size, 2, none⟩ = some (.int .i64 (F.s2 : Nat)) /\ w'.cell? ⟨w11.heap.size, 3, none⟩ = some (.int .i64 (F.s3 : Nat)) /\ w'.cell? ⟨w11.heap.size, 4, none⟩ = some (.int .i64 (F.c : Nat)) /\ w'.cell? ⟨w11.heap.size, 5, none⟩ = some (.int .i64 (F.h : Nat)) /\ w'.cell? ⟨w11.heap.size, 6, none⟩ = some (.int .i64 (F.u : Nat)) /\ w'.cell? ⟨w11.heap.size, 7, none⟩ = some (.slice (some ⟨g7, 0, none⟩) F.n cap7) /\ w'.cell? ⟨w11.heap.size, 8, none⟩ = some (.int .i64 (F.b : Nat))) (go_keep)
              (first
                | (go_at_call 16; refine HRO.out.mono ?_; rintro e w12 ⟨p, c12, rfl, hRf, hag12, hb12, hpl, hpc, hpr⟩; obtain ⟨f0, f1, f2, f3, f4, f5, f6, f7, f8⟩ := cells9 ((hb12.block w11.heap.size (show w11.heap.size < Y.drew.heap.size by show _ < Y.heap.size; omega)).trans HYG.out); have HRF := hideF hRf; have HAG12 := hideF hag12; have HB12 := hideF hb12; have HPL := hideF hpl; have HPC := hideF hpc; clear hRf hag12 hb12 hpl hpc hpr))
            go_wp2
            go_meet
            exact ⟨p, c12, w12, rfl, HRF.out, HAG12.out, HB12.out, HPL.out, HPC.out, rfl⟩
          case rest =>
            obtain ⟨p, c12, w12, rfl, hRf, hag12, hb12, hpl, hpc, hwx⟩ := hcut
            have hwb : Below w12.heap.size w12 wc := by rw [hwx]; exact bel_alloc (Below.refl _ _) _
            have hwg : wc.heap[w12.heap.size]? = some (.cells #[.pointer (some ⟨q1.d, 0, none⟩), .pointer (some ⟨p.r, 0, none⟩), .int .i64 (F.s0 : Nat), .int .i64 (F.s1 : Nat), .int .i64 (F.s2 : Nat), .int .i64 (F.s3 : Nat), .int .i64 (F.c : Nat), .int .i64 (F.h : Nat), .int .i64 (F.u : Nat), .slice (some ⟨g7, 0, none⟩) F.n cap7, .int .i64 (F.b : Nat), .slice none 0 0, .slice none 0 0, .int .i64 0] 52 (0, 0)) := by rw [hwx]; exact heap_alloc_new w12 _
            have hws : wc.heap.size = w12.heap.size + 1 := by rw [hwx]; generalize Obj.cells _ _ = o; simp
            have k11 : wc.cell? ⟨w12.heap.size, 11, none⟩ = some (.slice none 0 0) := (cell_of_row _ _ _ _ _ _ hwg).trans rfl
            have HSD := hideF (HI.out.bel (bel_then (bel_then HPY.out.bl hb12) hwb)).hd
            obtain ⟨i0, hi0, hq0, hq1, hq2⟩ := info_parts Tryz.infoET
            have HRF := hideF hRf
            have HAG12 := hideF hag12
            have HB12 := hideF hb12
            have HPL := hideF hpl
            have HPC := hideF hpc
            have HWB := hideF hwb
            have HWG := hideF hwg
            clear hRf hag12 hb12 hpl hpc hwb hwg hwx HRO HYG t0 t1 t2 t3 t4 t5 t6 t7 t8
            go_upto_region 42 with (at_builtin; go_must (refine wpList_append_srck rfl (.tmp 200) (.tmp 201) 30 rfl w12.heap.size 9 i0 _ 1 16 Tryz.underlying30 hi0 hq0 hq1 hq2 rfl (by decide) (.slice none 0 0) 0 [] rfl (World.ownsRow_nil _ _ _ _) _ nd (secV f nd) rfl HSD.out (by rw [secV_len]; omega) (secV_one _ _) (by unfold maxLen; omega) (by omega) (by omega) ?_; intro dv wk hown hgrow _; rw [Nat.zero_add, List.nil_append] at hown; obtain ⟨ga, gk, rfl, _⟩ := own_view hown; have hgb := (hgrow.block w12.heap.size (by omega) (by simp [Value.ownBlock])).trans HWG.out; have kk11 : wk.cell? ⟨w12.heap.size, 11, none⟩ = some (.slice none 0 0) := (cell_of_row _ _ _ _ _ _ hgb).trans rfl; have kkf : ∀ j, wk.frozen? ⟨w12.heap.size, j, none⟩ = false := fun _ => frozen_of_row _ _ _ _ _ hgb; have HGB := hideF hgb; have HOWN := hideF hown; have HGROW := hideF hgrow; clear hgb hown hgrow))
            obtain ⟨V, hV⟩ : ∃ V, V = wk.setCell ⟨w12.heap.size, 11, none⟩ (.slice ga nd gk) := ⟨_, rfl⟩
            have hcalm : Calm F.z F.sec nd (latC f F.sec) (stC f F.sec) (dataC F.z F.sec f) { dk := f, wet := [], least := 0 } := ⟨hfz, rfl, rfl, rfl, rfl⟩
            obtain ⟨hchk, _, hrl, hrc, hrd⟩ := hcalm.ready hs1 hnd.1
            have hsk := HGROW.out.size
            have hVb : Below w12.heap.size w12 V := by rw [hV]; exact (HWB.out.grown HGROW.out (by omega) (fun x hx => by simp [Value.ownBlock] at hx)).setCell (Nat.le_refl _) _
            have hVg : V.heap[w12.heap.size]? = some (.cells (rigC { q1 with g := w12.heap.size, p := p, dv := .slice ga nd gk, wt := .slice none 0 0 } D1 0) 52 (0, 0)) := by
              rw [hV, heap_setCell_same wk w12.heap.size 11 _ 52 (.slice ga nd gk) HGB.out, <- HPL.out, <- HPC.out, HD1.out]
              rfl
            have hVd : V.ownsRow w12.heap.size 9 1 (.slice ga nd gk) nd (secV f nd) := own_same HOWN.out fun x hx => by
              obtain ⟨cg, hcg⟩ := own_block HOWN.out x hx
              rw [hV, heap_setCell_other wk ⟨w12.heap.size, 11, none⟩ x _ (ne_types hcg HGB.out (by decide))]
            have hof1 : OfCf D1 F := by rw [HD1.out]; exact Cf.dev_of F N7 _ _ _
            have hbk12 : BkC w12 (w.heap.size + 2) c12 (w.heap.size + 2) 10 b7 := HPY.out.bk.frame (k := 9) (Fc.of_below HB12.out) HAG12.out (by decide)
            have hSB := rig_made (q1 := q1) hbk12 HRF.out (by rw [HPL.out]; exact hg7B) hof1 hVb hVg (Nat.le_refl _) hVd
            have hYV := bel_then HB12.out hVb
            have hagV : Agr Y.drew cY (colN w12 c12 7) := HAG12.out.trans (colN_agr w12 c12 7) HB12.out.size
            have hDV : DevC V (w.heap.size + 2) (nc V (w.heap.size + 2) (colN w12 c12 7)) { q1 with g := w12.heap.size, p := p, dv := .slice ga nd gk, wt := .slice none 0 0 } D1 := ((HPY.out.dv.frame HPY.out.nr (Fc.of_below (k := 9) hYV) hagV (by decide)).at w12.heap.size p (.slice ga nd gk) (.slice none 0 0)).nc
            have hovV := ownsRow_below HPY.out.ow hYV
            have hcoV := nc_row (B := w.heap.size + 2) hovV (Nat.le_refl _) (by decide) (show (9 : Nat) ≠ 0 by decide) (fun x hx => (hagV x (HPY.out.ow.lt x hx).2).trans (HPY.out.co x hx))
            rw [<- HA.out] at hchk hrl hrc hrd
            have hAl : A.length <= 100 := by rw [HA.out]; exact readyA_len _ _ hs3
            have HAC := hideF (acts_any V (w.heap.size + 2) _ _ D1 _ nd A.length (.slice ao A.length ko) (.slice none 0 0) (w.heap.size + 2) 0 A [] hSB.rg ⟨hnd0, hnd.2⟩ hovV (World.ownsRow_nil _ _ _ _) (fun x hx => by rw [hcoV x hx]; decide) (fun x hx => by simp [Value.ownBlock] at hx) hchk (by omega) (by simp) rfl (Nat.zero_le _) (by simp))
            have HFU : Hid (∀ (w13 : World) (v13 : Value) (c13 : Nat -> Nat), RigIn w13 (w.heap.size + 2) c13 { q1 with g := w12.heap.size, p := p, dv := .slice ga nd gk, wt := v13 } D1 (runL A.length [] A { dk := f, wet := [], least := 0 }) nd -> Agr V (nc V (w.heap.size + 2) (colN w12 c12 7)) c13 -> Fc (nc V (w.heap.size + 2) (colN w12 c12 7)) 7 V w13 -> ∃ (q : Plc) (c : Nat -> Nat) (s : Ls), q.g = w12.heap.size /\ Full w13 (w.heap.size + 2) c q (w.heap.size + 2) 10 b7 F D1 s [keptL D1.ent F.c F.h] 0 (fun _ => ⟨#[]⟩) (fun _ => false) nd (dataC F.z F.sec f) /\ Below (w.heap.size + 2) V w13) := fun w13 v13 c13 hR hag hf => by
              have hsb : StB w13 (w.heap.size + 2) (nc w13 (w.heap.size + 2) c13) { q1 with g := w12.heap.size, p := p, dv := .slice ga nd gk, wt := v13 } (w.heap.size + 2) 10 b7 F D1 (runL A.length [] A { dk := f, wet := [], least := 0 }) [keptL D1.ent (D1.kp 0) (D1.kp 2)] 0 (fun _ => ⟨#[]⟩) (fun _ => false) nd := StB.norm (hSB.bk.frame hf hag (by decide)) (hSB.rf.frame hf hag (by decide) (by decide) (by decide)) hR hSB.lb hSB.cf
              have hdv := ((hDV.frame hSB.nr hf hag (by decide)).at w12.heap.size p (.slice ga nd gk) v13).nc
              have hkp : D1.kp 0 = F.c /\ D1.kp 2 = F.h := by rw [HD1.out]; exact ⟨rfl, rfl⟩
              rw [hkp.1, hkp.2] at hsb
              refine ⟨_, _, _, rfl, ⟨hsb, hdv, ?_, ?_, ?_, ?_⟩, hf.toBelow hSB.nr (by decide) hSB.bk.bk.lo.2⟩
              . rw [HD1.out]
                exact Cf.dev_sim hF N7 _ _ nd _ _ hrc hrd hrl hnd.1
              . rw [HD1.out]
                exact Cf.dev_ok hF N7 _ _ _ (latC_le _ _) (stC_le _ _)
              . rw [HD1.out]; exact Nat.zero_le _
              . intro l hl
                rw [List.mem_singleton] at hl
                rw [hl, keptL_len]
                omega
            have HBV : Hid (Below w.heap.size w V) := bel_then HPY.out.bl hYV
            have hbx1 : V.heap[w.heap.size + 1]? = some (.cells (opA o) 42 (0, 0)) := (hYV.block _ (lt_of_block HPY.out.b1)).trans HPY.out.b1
            have HBX1 := hideF hbx1
            clear hcalm hchk hrl hrc hrd hVb hVg hVd hof1 hbk12 hSB hYV hagV hDV hovV hcoV hbx1 kk11 kkf k11
            rw [<- hV]
            clear hV
            go_wp2_with fail
            refine HAC.out.mono ?_
            rintro e w13 ⟨rfl, v13, c13, hR13, hag13, hf13⟩
            obtain ⟨q, c14, s14, hqg, hfull, hb13⟩ := HFU.out w13 v13 c13 hR13 hag13 hf13
            have HFULL := hideF hfull
            have HB13 := hideF hb13
            have HQG := hideF hqg
            clear hR13 hag13 hf13 hfull hb13 hqg HAC HFU HGB HOWN HGROW HWB HWG HSD HRF HAG12 HB12 HPL HPC HPY
            obtain ⟨d14, hd14⟩ : ∃ d14, d14 = dataC F.z F.sec f := ⟨_, rfl⟩
            obtain ⟨l14, hl14⟩ : ∃ l14, l14 = [keptL D1.ent F.c F.h] := ⟨_, rfl⟩
            rw [<- hd14, <- hl14] at HFULL
            clear hd14 hl14
            go_wp2_with fail
            go_loopw [11, 29] (fun _ tv wr => ∃ (t : Nat) (c : Nat -> Nat) (b : Bks), tv = .int .i64 (t : Nat) /\ t <= 4 /\ Full wr (w.heap.size + 2) c q (w.heap.size + 2) (10 + 2 * t) b F D1 s14 l14 0 (fun _ => ⟨#[]⟩) (fun _ => false) nd d14 /\ Below (w.heap.size + 2) V wr) (fun _ tv _ => 4 - (intOf tv).toNat)
            case atStart => exact ⟨0, c14, b7, rfl, Nat.zero_le _, HFULL.out, HB13.out⟩
            case round =>
              obtain ⟨w15, hw15⟩ : ∃ x, x = wr := ⟨_, rfl⟩
              rw [<- hw15] at hrel ⊢
              clear hw15
              obtain ⟨t, c15, b15, rfl, ht, hf15, hb15⟩ := hrel
              have HF15 := hideF hf15
              have HB15 := hideF hb15
              by_cases ht4 : t < 4
              . have HLK := hideF (do_look w15 (w.heap.size + 2) c15 q (w.heap.size + 2) (10 + 2 * t) b15 F D1 s14 l14 0 (fun _ => ⟨#[]⟩) (fun _ => false) nd d14 ⟨7, 0, (t : Nat), 0, 0, -1, 0, 0, 0, 0, ⟨#[]⟩, .int .i64 0, .int .i64 0, .int .i64 0, .int .i64 0, .int .i64 0, .int .i64 0, .int .i64 0, .slice none 0 0, .int .i64 0⟩ t hf15 (by omega) rfl rfl ht4 hnd0)
                rw [HQG.out] at HLK
                unfold opA at HLK
                have ht4' : (t : Int) < 4 := by omega
                clear hf15 hb15
                go_wp2_with fail
                refine HLK.out.mono ?_
                rintro e w16 ⟨rfl, c16, b16, hf16, hb16⟩
                have HF16 : Hid (Full w16 (w.heap.size + 2) c16 q (w.heap.size + 2) (10 + 2 * (t + 1)) b16 F D1 s14 l14 0 (fun _ => ⟨#[]⟩) (fun _ => false) nd d14) := hf16
                have HB16 := hideF (HB15.out.trans hb16)
                clear hf16 hb16
                go_wp2
                go_roundw
                case rel => exact ⟨t + 1, c16, b16, by go_num, by omega, HF16.out, HB16.out⟩
                case measure => simp [intOf]; omega
              . obtain rfl : t = 4 := by omega
                clear hf15 hb15
                have hbx15 : w15.heap[w.heap.size + 1]? = some (.cells (opA o) 42 (0, 0)) := (HB15.out.block _ (by omega)).trans HBX1.out
                have j0 : w15.cell? ⟨w.heap.size + 1, 0, none⟩ = some (.int .i64 o.kind) := (cell_of_row _ _ _ _ _ _ hbx15).trans rfl
                have jf : ∀ j, w15.frozen? ⟨w.heap.size + 1, j, none⟩ = false := fun _ => frozen_of_row _ _ _ _ _ hbx15
                obtain ⟨U, hU⟩ : ∃ U, U = w15.setCell ⟨w.heap.size + 1, 0, none⟩ (.int .i64 2) := ⟨_, rfl⟩
                obtain ⟨o2, ho2⟩ : ∃ o2 : OpV, o2 = { o with kind := 2 } := ⟨_, rfl⟩
                have HUB : Hid (U.heap[w.heap.size + 1]? = some (.cells (opA o2) 42 (0, 0))) := by
                  show _ = _
                  rw [hU, heap_setCell_same w15 (w.heap.size + 1) 0 _ 42 (.int .i64 2) hbx15, ho2]
                  rfl
                have hc0 : c15 (w.heap.size + 1) = 0 := (HF15.out.sb.nr.zero _).2 (by omega)
                have hfU : Fc c15 0 w15 U := by rw [hU]; exact (Fc.refl c15 0 w15).setCell _ 0 (.inr hc0) _
                have hFU : Full U (w.heap.size + 2) (nc U (w.heap.size + 2) c15) q (w.heap.size + 2) 18 b15 F D1 s14 l14 0 (fun _ => ⟨#[]⟩) (fun _ => false) nd d14 := ⟨StB.norm (HF15.out.sb.bk.frame hfU (Agr.refl _ _) (by decide)) (HF15.out.sb.rf.frame hfU (Agr.refl _ _) (by decide) (by decide) (by decide)) (HF15.out.sb.rg.frame hfU (Agr.refl _ _) (by decide)) HF15.out.sb.lb HF15.out.sb.cf, (HF15.out.dv.frame HF15.out.sb.nr hfU (Agr.refl _ _) (by decide)).nc, HF15.out.sim, HF15.out.ok, HF15.out.ar, HF15.out.ll⟩
                have HBU : Hid (Below w.heap.size w U) := by
                  rw [hU]
                  exact (HBV.out.trans (HB15.out.mono (by omega))).setCell (by show w.heap.size <= w.heap.size + 1; omega) _
                have ho2r : OpR o2 := by rw [ho2]; exact ⟨ho.cut, ho.bits, ho.tear, ho.at', ho.again⟩
                have hfr : Fresh D1 (fun _ => ⟨#[]⟩) (fun _ => false) := by rw [HD1.out]; exact ⟨fun _ => rfl, fun _ => rfl, fun _ => rfl, fun _ => rfl, rfl, rfl⟩
                have HFD : Hid (Calls Tryz.prog 9 #[.pointer (some ⟨w12.heap.size, 0, none⟩), .agg (opA o2), .pointer (some ⟨w.heap.size + 2, 0, none⟩)] U fun e w' => e = .returned (.bool true) /\ Stands U w' (w.heap.size + 2) q (w.heap.size + 2) 29 F nd) := by
                  show Calls _ _ _ _ _
                  rw [<- HQG.out]
                  by_cases ha : 0 <= o.a /\ o.a < (F.n : Int)
                  . have e1 : o2.a = ((o.a.toNat : Nat) : Int) := by rw [ho2]; show o.a = _; omega
                    exact do_feed U (w.heap.size + 2) _ q (w.heap.size + 2) 18 b15 F D1 s14 l14 0 _ _ nd d14 o2 o.a.toNat hFU hfr hF (by omega) hnd ho2r (by rw [ho2]) e1 (by omega) (by rw [ho2]; exact hos)
                  . refine (do_feed_none U (w.heap.size + 2) _ q (w.heap.size + 2) 18 b15 F D1 s14 l14 0 _ _ nd d14 o2 hFU hnd0 (by rw [ho2]) (by rw [ho2]; show o.a < 0 ∨ (F.n : Int) <= o.a; omega)).mono ?_
                    rintro e w' ⟨he, hst⟩
                    obtain ⟨qx, cx, bx, Dx, sx, lx, sfx, yx, zx, dx, hfx, h1, h2⟩ := hst.full
                    exact ⟨he, (hfx.more (by omega)).stands h1 h2⟩
                clear hc0 hfU hFU hfr ho2r ho2 hbx15
                go_upto_region 52 with fail
                rw [<- hU]
                clear hU j0 jf
                go_wp2_with (refine wpList_load42 rfl 5 rfl (w.heap.size + 1) rfl o2 HUB.out ?_)
                refine HFD.out.mono ?_
                rintro e w17 ⟨rfl, hst17⟩
                obtain ⟨q17, c17, b17, D17, s17, l17, sf17, y17, z17, d17, hf17, hg17, hb17⟩ := hst17.full
                have HFL := hideF (do_flush w17 (w.heap.size + 2) c17 q17 (w.heap.size + 2) 29 b17 F D17 s17 l17 sf17 y17 z17 nd d17 ⟨4, 0, 0, 0, 0, -1, 0, 0, 0, 0, ⟨#[]⟩, .int .i64 0, .int .i64 0, .int .i64 0, .int .i64 0, .int .i64 0, .int .i64 0, .int .i64 0, .slice none 0 0, .int .i64 0⟩ hf17 hF (by omega) hnd ⟨in64_m, in64_0, in64_0, in64_0, in64_0⟩ rfl)
                rw [hg17, HQG.out] at HFL
                unfold opA at HFL
                have HG17 := hideF hg17
                have HB17 := hideF (HBU.out.trans (hb17.mono (by omega)))
                clear hst17 hf17 hg17 hb17 HUB HFD
                go_wp2_with fail
                refine HFL.out.mono ?_
                rintro e w18 ⟨rfl, hst18⟩
                obtain ⟨q18, c18, b18, D18, s18, l18, sf18, y18, z18, d18, hf18, hg18, hb18⟩ := hst18.full
                have HPW := hideF (do_power w18 (w.heap.size + 2) c18 q18 (w.heap.size + 2) 40 b18 F D18 s18 l18 sf18 y18 z18 nd d18 ⟨8, 0, 0, 0, 0, 0, 0, 0, 0, -1, ⟨#[]⟩, .int .i64 0, .int .i64 0, .int .i64 0, .int .i64 0, .int .i64 0, .int .i64 0, .int .i64 0, .slice none 0 0, .int .i64 0⟩ hf18 hF (by omega) hnd ⟨in64_0, in64_0, in64_0, in64_0, in64_m⟩ rfl)
                rw [hg18, HG17.out, HQG.out] at HPW
                unfold opA at HPW
                have HB18 := hideF (HB17.out.trans (hb18.mono (by omega)))
                clear hst18 hf18 hg18 hb18 HFL
                go_wp2_with fail
                refine HPW.out.mono ?_
                rintro e w19 ⟨rfl, hst19⟩
                obtain ⟨q19, c19, b19, D19, s19, l19, sf19, y19, z19, d19, hf19, hg19, hb19⟩ := hst19.full
                have HEN := hideF (book_ends w19 (w.heap.size + 2) (w.heap.size + 2) 50 b19 hf19.sb.bk.bk (by omega))
                have HB19 := hideF (HB18.out.trans (hb19.mono (by omega)))
                clear hst19 hf19 hg19 hb19 HPW
                go_wp2_with fail
                refine HEN.out.mono ?_
                rintro e w20 ⟨rfl, hb20⟩
                have HB20 := hideF (HB19.out.trans (hb20.mono (by omega)))
                clear hb20
                go_wp2
                go_ret
                exact ⟨rfl, HB20.out⟩
end Go.Proofs.YtcpldcojckhapaaGreat
