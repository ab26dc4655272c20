/-
  
-/
import Derived.Test.YtcpldcojckhapaaGreatJ33
set_option maxRecDepth 100000
namespace Go.Proofs.YtcpldcojckhapaaGreat
open Go.RowKit
def valQ (D : Dev) (x : Pl.Shp) (j : Nat) : Int := if x.fn = 22 then ((maskN (D.ent 2 x.to).toNat (x.vals.getD 0 0).toNat (x.vals.getD 1 0).toNat : Nat) : Int) else x.vals.getD j 0
def entQ (D : Dev) (x : Pl.Shp) (q : Nat) : Nat -> Nat -> Int := fun i k => if i = x.into /\ x.to <= k /\ k < x.to + q then valQ D x (k - x.to) else D.ent i k
theorem entQ_zero (D : Dev) (x : Pl.Shp) : entQ D x 0 = D.ent := by
  funext i k
  unfold entQ
  rw [if_neg (by omega)]
theorem entQ_succ (D : Dev) (x : Pl.Shp) (q i k : Nat) : entQ D x (q + 1) i k = if i = x.into /\ k = x.to + q then valQ D x q else entQ D x q i k := by
  unfold entQ
  by_cases h : i = x.into /\ k = x.to + q
  . obtain ⟨rfl, rfl⟩ := h
    rw [if_pos (by omega), if_pos ⟨rfl, rfl⟩]
    congr 1
    omega
  . rw [if_neg h]
    by_cases h2 : i = x.into /\ x.to <= k /\ k < x.to + q
    . rw [if_pos h2, if_pos (by omega)]
    . rw [if_neg h2, if_neg (by omega)]
theorem entQ_many {s : ByteArray} (D : Dev) (x : Pl.Shp) (h : ShpOk s x) : entQ D x x.many = entD D x := by
  rcases h.kind with ⟨t, a, o, _, _, rfl⟩ | ⟨h1, h2⟩
  . funext i k
    unfold entQ entD valQ entSet
    simp only [if_true]
    by_cases h3 : i = 2 /\ k = t
    . rw [if_pos (by omega), if_pos h3]
    . rw [if_neg (by omega), if_neg h3]
  . funext i k
    unfold entQ entD valQ entW
    rw [if_neg h1, if_neg h1, h2]
theorem enter135 (x y : Value) (w : World) : (callFunc 135 #[x, y]).run Tryz.prog w = .ok (.enter 135 #[x, y]) w := by kernel_rfl
theorem row_at {w : World} {B n cp : Nat} {a : Option Addr} {l : List Int} (h : w.ownsRow B 3 1 (.slice a n cp) n (l.flatMap encI)) (hl : l.length = n) (q : Nat) (hq : q < n) : ∃ gv, a = some ⟨gv, 0, none⟩ /\ gv < w.heap.size /\ w.cell? ⟨gv, q, none⟩ = some (.int .i64 (l.getD q 0)) := by
  obtain ⟨a', c', e, hat⟩ := own_view h
  obtain ⟨rfl, rfl⟩ : a = a' /\ cp = c' := by simpa using e
  obtain ⟨gv, rfl, hgv, hcv⟩ := hat q (by omega)
  refine ⟨gv, rfl, hgv, ?_⟩
  have := h.cellAt q (by omega)
  rw [this, encI_at _ q (l.getD q 0)]
  rw [List.getD_eq_getElem?_getD, List.getElem?_eq_getElem (by omega)]
  rfl
theorem rtold_step (w : World) (B : Nat) (c : Nat -> Nat) (p : Rfm) (D : Dev) (left : List (List Int)) (safe : Nat) (ys : Nat -> ByteArray) (zs : Nat -> Bool) (x : Pl.Shp) (a : Option Addr) (n k : Nat) (h : RefIn w B c p D left safe ys zs) (ht : x.tab < 4) (hx : x.frm + x.cnt <= D.sz x.tab) (hz : D.sz x.tab <= 60) (he : EntOk D.ent) :
    Calls Tryz.prog 135 #[.pointer (some ⟨p.r, 0, none⟩), shV x (.slice a n k)] w fun e w' => ∃ v, e = .returned v /\ (v = .string (toldR (readP D.ent x)) /\ Below w.heap.size w w') := by
  rcases Nat.lt_or_ge x.tab 2 with h2 | h2
  . refine (rtold_bits w B c p D left safe ys zs x a n k h h2 hx hz he).mono ?_
    rintro e w' ⟨rfl, hb⟩
    exact ⟨_, rfl, rfl, hb⟩
  . refine (rtold_words w B c p D left safe ys zs x a n k h ht (by omega) hx hz he).mono ?_
    rintro e w' ⟨rfl, hb⟩
    exact ⟨_, rfl, rfl, hb⟩
theorem told_eq (s d : ByteArray) (h : 0 < s.size) : s.extract 0 1 ++ toldR d = toldB s d := by
  unfold toldR toldB
  have e : s.extract 0 1 = ⟨#[UInt8.ofNat (Pl.byt s 0)]⟩ := by
    have hz : (s.extract 0 1).size = 1 := by rw [ByteArray.size_extract]; omega
    apply ByteArray.ext
    apply Array.ext
    . exact hz
    . intro i h1 h2
      obtain rfl : i = 0 := by simp at h2; exact h2
      have hg := Pl.get_byt (s.extract 0 1) 0 (by omega)
      rw [Pl.byt_extract s 0 1 0 (by omega) (by omega)] at hg
      show (s.extract 0 1)[0] = UInt8.ofNat (Pl.byt s 0)
      rw [<- hg]
      simp
  rw [e, <- ByteArray.append_assoc]
  rfl
set_option maxHeartbeats 8000000 in
theorem request_yes (w : World) (B : Nat) (c : Nat -> Nat) (p : Rfm) (D : Dev) (left : List (List Int)) (safe : Nat) (ys : Nat -> ByteArray) (zs : Nat -> Bool) (s : ByteArray) (x : Pl.Shp) (h : RefIn w B c p D left safe ys zs) (hsh : Pl.ShpIs s x 0) (hs : 0 < s.size) (hs2 : s.size <= 253) (hx : hasB D x = true) (hz : ∀ i, i < 4 -> D.sz i <= 60) (he : EntOk D.ent) :
    Calls Tryz.prog 106 #[.pointer (some ⟨p.r, 0, none⟩), .string s] w fun e w' => e = .returned (.tuple #[.string (answP (entD D x) s x), .bool (decide (0 < x.many) && decide (x.to < D.kp x.into))]) /\ RefIn w' B c p { D with ent := entD D x } left safe ys zs /\ Fc c 3 w w' := by
  have HR := hideF h
  have hrl := lt_of_block h.dev
  have HSH := hideF hsh
  have HZ := hideF hz
  have HEN := hideF he
  obtain ⟨q1, q2⟩ : x.frm + x.cnt <= D.sz x.tab /\ x.to + x.many <= D.sz x.into := by
    unfold hasB at hx
    simpa only [Bool.and_eq_true, decide_eq_true_eq] using hx
  clear h hsh hx hz he
  go_enter Tryz.func106, Tryz.ntmps106
  go_wp2_with fail
  refine (rshape_any s w).mono ?_
  rintro e w1 ⟨x', v, k', rfl, hown, hsh', hlen, hbw1⟩
  obtain ⟨rfl, rfl⟩ := hsh'.eq HSH.out
  obtain ⟨a, cp, rfl, hat⟩ := own_view hown
  unfold shV
  obtain ⟨V, hV, hVb, hVs, hVg⟩ := box8 w1 (.int .i64 (x'.fn : Nat)) (.int .i64 (x'.tab : Nat)) (.int .i64 (x'.frm : Nat)) (.int .i64 (x'.cnt : Nat)) (.int .i64 (x'.into : Nat)) (.int .i64 (x'.to : Nat)) (.int .i64 (x'.many : Nat)) (.slice a x'.vals.length cp)
  have HVB := hideF (bel_then hbw1 hVb)
  obtain ⟨y0, y1, y2, y3, y4, y5, y6, y7, y8⟩ := cells8 hVg
  have hs1 := hbw1.size
  have HRV := hideF (HR.out.below HVB.out)
  have HOV := hideF (ownsRow_below hown hVb)
  have HVG := hideF hVg
  clear hown hsh' hVb hVg hbw1 hat
  obtain ⟨m1, m2, m3⟩ := shp_more HSH.out
  rcases shp_ok HSH.out with ⟨_, hok⟩ | ⟨hh, _⟩
  rotate_left
  . omega
  have l1 := hok.tab
  have l2 := hok.into
  have l3 := hok.frm
  have l4 := hok.cnt
  have l5 := hok.to'
  have l6 := hok.many
  have HOK := hideF hok
  clear hok m2 m3
  go_wp2_with fail
  rw [<- hV]
  clear hV
  refine (rhas_any V B c p D left safe ys zs x'.tab x'.frm x'.cnt HRV.out l1 l3 l4).mono ?_
  rintro e w2 ⟨rfl, rfl⟩
  rw [decide_eq_true q1]
  go_wp2_with fail
  refine (rhas_any w2 B c p D left safe ys zs x'.into x'.to x'.many HRV.out l2 l5 l6).mono ?_
  rintro e w3 ⟨rfl, rfl⟩
  rw [decide_eq_true q2]
  have hGl := (HR.out.tab x'.into l2).lt
  have z60 := HZ.out x'.into l2
  clear y0 y1 y2 y3 y4 y5 y6 y7 y8
  obtain ⟨y0, y1, y2, y3, y4, y5, y6, y7, y8⟩ := cells8 HVG.out
  go_wp2_with fail
  go_loopw [10, 11] (fun kv i wr => ∃ q : Nat, q <= x'.many /\ i = .int .i64 (q : Nat) /\ kv = .bool (decide (0 < q /\ x'.to < D.kp x'.into)) /\ RefIn wr B c p { D with ent := entQ D x' q } left safe ys zs /\ Chg1 (p.G x'.into) w3 wr) (fun _ i _ => x'.many - (intOf i).toNat)
  case atStart => exact ⟨0, Nat.zero_le _, rfl, by simp, by rw [entQ_zero]; exact HRV.out, Chg1.refl _ _⟩
  case round =>
    obtain ⟨q, hq, rfl, rfl, hRq, hCq⟩ := hrel
    obtain ⟨b, hb⟩ : ∃ b, b = decide (0 < q /\ x'.to < D.kp x'.into) := ⟨_, rfl⟩
    have HBN : Hid (decide (0 < q + 1 /\ x'.to < D.kp x'.into) = (b || decide (x'.to + q < D.kp x'.into))) := by
      show _ = _
      rw [hb, <- Bool.decide_or]
      apply decide_eq_decide.2
      omega
    rw [<- hb]
    have HB0 := hideF hb
    clear hb
    have hsq := hCq.size
    have hgq := (hCq.block w1.heap.size (by omega) (by omega)).trans HVG.out
    clear y0 y1 y2 y3 y4 y5 y6 y7 y8
    obtain ⟨y0, y1, y2, y3, y4, y5, y6, y7, y8⟩ := cells8 hgq
    have hOq : wr.ownsRow w.heap.size 3 1 (.slice a x'.vals.length cp) x'.vals.length (x'.vals.flatMap encI) := own_same HOV.out fun g hg => hCq.block g (HOV.out.lt g hg).2 (by have := (HOV.out.lt g hg).1; omega)
    have HRQ := hideF hRq
    have HCQ := hideF hCq
    have HGQ := hideF hgq
    by_cases hlt : q < x'.many
    . have hcT := hRq.cellT l2
      have hlI : (q : Int) < (x'.many : Int) := by omega
      have hix : (x'.to : Int) + (q : Int) < (D.sz x'.into : Int) := by omega
      have hnx : ((x'.to : Int) + (q : Int)).toNat = x'.to + q := by omega
      have hwr : IntKind.i64.wrap ((x'.to : Int) + (q : Int)) = (x'.to : Int) + (q : Int) := by rw [IntKind.wrap_i64]; omega
      have hp0 : 0 <= (x'.to : Int) + (q : Int) := by omega
      obtain ⟨ce, hce⟩ := (hRq.tab x'.into l2).block
      have hfz : wr.frozen? ⟨p.G x'.into, x'.to + q, none⟩ = false := frozen_of_row _ _ _ _ _ hce
      have HFZ := hideF hfz
      have HCT := hideF hcT
      have HCE := hideF (hRq.entT l2 (k := x'.to + q) (by show x'.to + q < D.sz x'.into; omega))
      have hrq := lt_of_block hRq.dev
      have hv4 : (x'.into : Int) < 4 := by omega
      clear hCq hgq hce hfz hcT
      have key : ∃ vq : Int, vq = valQ D x' q := ⟨_, rfl⟩
      obtain ⟨vq, hvq⟩ := key
      have HVQ := hideF hvq
      rcases HOK.out.kind with ⟨t, a1, o1, ha1, ho1, hxe⟩ | ⟨hn22, hlen2⟩
      . have f1 : x'.fn = 22 := by rw [hxe]
        have f2 : x'.into = 2 := by rw [hxe]
        have f3 : x'.many = 1 := by rw [hxe]
        have f4 : x'.vals = [((a1 : Nat) : Int), ((o1 : Nat) : Int)] := by rw [hxe]
        have hq0 : q = 0 := by omega
        have hcT2 : wr.cell? ⟨p.r, 11, none⟩ = _ := hRq.cellT (i := 2) (by omega)
        have hok2 := HEN.out 2 x'.to
        obtain ⟨n, hn⟩ : ∃ n : Nat, n = (D.ent 2 x'.to).toNat := ⟨_, rfl⟩
        have hcE2 : wr.cell? ⟨p.G 2, x'.to, none⟩ = some (.int .i64 (n : Nat)) := by
          have := hRq.entT (i := 2) (by omega) (k := x'.to) (by show x'.to < D.sz 2; rw [<- f2]; omega)
          rw [this]
          have e0 : entQ D x' q 2 x'.to = (n : Int) := by rw [hq0, entQ_zero]; omega
          show some (Value.int .i64 (entQ D x' q 2 x'.to)) = _
          rw [e0]
        have hnl : n < 65536 := by omega
        obtain ⟨gv, rfl, hgv, hcv⟩ := row_at hOq rfl 0 (by rw [f4]; simp)
        have hcv0 : wr.cell? ⟨gv, 0, none⟩ = some (.int .i64 (a1 : Nat)) := by rw [hcv, f4]; rfl
        have hcv1 : wr.cell? ⟨gv, 1, none⟩ = some (.int .i64 (o1 : Nat)) := by
          obtain ⟨gv', e', _, hc'⟩ := row_at hOq rfl 1 (by rw [f4]; simp)
          obtain rfl : gv = gv' := by simpa using e'
          rw [hc', f4]; rfl
        have hv2 : x'.vals.length = 2 := by rw [f4]; rfl
        have hq22 : ((x'.fn : Int) == 22) = true := by rw [f1]; rfl
        have hvm : ((maskN n a1 o1 : Nat) : Int) = vq := by rw [hvq]; unfold valQ; rw [if_pos f1, f4, <- hn]; rfl
        have hto2 : (x'.to : Int) < (D.sz 2 : Int) := by rw [<- f2]; omega
        have hcvq : wr.cell? ⟨gv, q, none⟩ = some (.int .i64 (a1 : Nat)) := by rw [hq0]; exact hcv0
        have hq2 : (q : Int) < 2 := by omega
        rw [hv2] at y8
        clear hvq hxe f1 f4 f3 hn hcv hOq hok2 hRq f2 hv2 hq0
        go_wp2_with fail
        go_quiet (first | (go_at_call 134; refine Calls.quiet_of_same (rmasked_any n a1 o1 _ hnl ha1 ho1)))
        rw [hvm]
        obtain ⟨Y, hY⟩ : ∃ Y, Y = wr.drewN nq := ⟨_, rfl⟩
        have hYb : Below wr.heap.size wr Y := by rw [hY]; exact below_drewN (Below.refl _ _) _
        rw [<- hY]
        have HRQ2 := hideF (HRQ.out.below hYb)
        have HCQ2 := hideF (HCQ.out.trans (Chg1.of_below (p.G x'.into) hYb))
        have HGQ2 := hideF ((hYb.block w1.heap.size (by omega)).trans HGQ.out)
        have hfz : Y.frozen? ⟨p.G x'.into, x'.to + q, none⟩ = false := by rw [hY]; exact HFZ.out
        have hcT : Y.cell? ⟨p.r, 9 + x'.into, none⟩ = some (.slice (some ⟨p.G x'.into, 0, none⟩) (D.sz x'.into) (D.sz x'.into)) := by rw [hY]; exact HCT.out
        have hcE := HRQ2.out.entT l2 (k := x'.to + q) (by show x'.to + q < D.sz x'.into; omega)
        clear hY hYb y0 y1 y2 y3 y4 y5 y6 y7 y8 hcv0 hcv1 hcT2 hcE2 hcvq
        obtain ⟨y0, y1, y2, y3, y4, y5, y6, y7, y8⟩ := cells8 HGQ2.out
        go_wp2_with fail
        go_region
        obtain ⟨Z, hZ⟩ : ∃ Z, Z = (Y.setCell ⟨p.G x'.into, x'.to + q, none⟩ (.int .i64 vq)).drew := ⟨_, rfl⟩
        have hC2 : Chg1 (p.G x'.into) Y (Y.setCell ⟨p.G x'.into, x'.to + q, none⟩ (.int .i64 vq)) := (Chg1.refl _ _).setCell _ _
        have hG2 := grid_set1 (v := vq) (HRQ2.out.tab x'.into l2) (t := x'.to + q) (by show x'.to + q < D.sz x'.into; omega)
        have HRZ : Hid (RefIn Z B c p { D with ent := entQ D x' (q + 1) } left safe ys zs) := by
          rw [hZ]
          refine RefIn.below (HRQ2.out.put (f := entQ D x' (q + 1)) l2 hC2 (hG2.congr fun i _ _ _ => ?_) (fun i k hne => ?_)) (below_drewN (Below.refl _ _) 1)
          . show Value.int .i64 (if i = x'.to + q then vq else entQ D x' q x'.into i) = Value.int .i64 (entQ D x' (q + 1) x'.into i)
            rw [entQ_succ, HVQ.out]
            by_cases e : i = x'.to + q
            . rw [if_pos e, if_pos ⟨rfl, e⟩]
            . rw [if_neg e, if_neg (fun h => e h.2)]
          . show entQ D x' (q + 1) i k = entQ D x' q i k
            rw [entQ_succ, if_neg (fun h => hne h.1)]
        have HCZ : Hid (Chg1 (p.G x'.into) w3 Z) := by rw [hZ]; exact (HCQ2.out.trans hC2).drewN 1
        have hZg : Z.heap[w1.heap.size]? = Y.heap[w1.heap.size]? := by rw [hZ]; exact heap_setCell_other Y ⟨p.G x'.into, x'.to + q, none⟩ w1.heap.size _ (by show w1.heap.size ≠ p.G x'.into; omega)
        rw [<- hZ]
        clear hZ hC2 hG2 y0 y1 y2 y3 y4 y5 y6 y7 y8 hcT hfz hcE
        obtain ⟨y0, y1, y2, y3, y4, y5, y6, y7, y8⟩ := cells8 (hZg.trans HGQ2.out)
        obtain ⟨k4, k5, _, _, _, _, _, _, _, _, _, _, _⟩ := HRZ.out.cells
        clear hZg
        cases b
        . rcases m1 with m0 | m0
          . have w0 : ((x'.into : Int) == 0) = true := by rw [m0]; rfl
            have w2 : ((x'.into : Int) == 2) = false := by rw [m0]; rfl
            by_cases hP : x'.to + q < D.kp x'.into
            . have hPI : decide ((x'.to : Int) + (q : Int) < (D.kp 0 : Int)) = true := by rw [m0] at hP; exact decide_eq_true (by omega)
              rw [decide_eq_true hP] at HBN
              clear hP m0
              go_wp2_with fail
              go_quiet (fail)
              go_wp2
              go_roundw
              case rel => exact ⟨q + 1, hlt, by go_num, by rw [HBN.out]; rfl, HRZ.out.below (below_drewN (Below.refl _ Z) nq), HCZ.out.drewN nq⟩
              case measure => simp [intOf]; omega
            . have hPI : decide ((x'.to : Int) + (q : Int) < (D.kp 0 : Int)) = false := by rw [m0] at hP; exact decide_eq_false (by omega)
              rw [decide_eq_false hP] at HBN
              clear hP m0
              go_wp2_with fail
              go_quiet (fail)
              go_wp2
              go_roundw
              case rel => exact ⟨q + 1, hlt, by go_num, by rw [HBN.out]; rfl, HRZ.out.below (below_drewN (Below.refl _ Z) nq), HCZ.out.drewN nq⟩
              case measure => simp [intOf]; omega
          . have w0 : ((x'.into : Int) == 0) = false := by rw [m0]; rfl
            have w2 : ((x'.into : Int) == 2) = true := by rw [m0]; rfl
            by_cases hP : x'.to + q < D.kp x'.into
            . have hPI : decide ((x'.to : Int) + (q : Int) < (D.kp 2 : Int)) = true := by rw [m0] at hP; exact decide_eq_true (by omega)
              rw [decide_eq_true hP] at HBN
              clear hP m0
              go_wp2_with fail
              go_quiet (fail)
              go_wp2
              go_roundw
              case rel => exact ⟨q + 1, hlt, by go_num, by rw [HBN.out]; rfl, HRZ.out.below (below_drewN (Below.refl _ Z) nq), HCZ.out.drewN nq⟩
              case measure => simp [intOf]; omega
            . have hPI : decide ((x'.to : Int) + (q : Int) < (D.kp 2 : Int)) = false := by rw [m0] at hP; exact decide_eq_false (by omega)
              rw [decide_eq_false hP] at HBN
              clear hP m0
              go_wp2_with fail
              go_quiet (fail)
              go_wp2
              go_roundw
              case rel => exact ⟨q + 1, hlt, by go_num, by rw [HBN.out]; rfl, HRZ.out.below (below_drewN (Below.refl _ Z) nq), HCZ.out.drewN nq⟩
              case measure => simp [intOf]; omega
        . rw [Bool.true_or] at HBN
          go_wp2_with fail
          go_quiet (fail)
          go_wp2
          go_roundw
          case rel => exact ⟨q + 1, hlt, by go_num, by rw [HBN.out], HRZ.out.below (below_drewN (Below.refl _ Z) nq), HCZ.out.drewN nq⟩
          case measure => simp [intOf]; omega
      . obtain ⟨gv, rfl, hgv, hcv⟩ := row_at hOq rfl q (by omega)
        have hq22 : ((x'.fn : Int) == 22) = false := by rw [beq_eq_false_iff_ne]; omega
        have hvq2 : x'.vals.getD q 0 = vq := by rw [hvq]; unfold valQ; rw [if_neg hn22]
        have hlI2 : (q : Int) < (x'.vals.length : Int) := by omega
        rw [hvq2] at hcv
        clear hvq hvq2 hlen2 hn22 hOq hRq
        go_wp2_with fail
        have hcT := HCT.out
        have hfz := HFZ.out
        have hcE := HCE.out
        go_region
        obtain ⟨Z, hZ⟩ : ∃ Z, Z = (wr.setCell ⟨p.G x'.into, x'.to + q, none⟩ (.int .i64 vq)).drew := ⟨_, rfl⟩
        have hC2 : Chg1 (p.G x'.into) wr (wr.setCell ⟨p.G x'.into, x'.to + q, none⟩ (.int .i64 vq)) := (Chg1.refl _ _).setCell _ _
        have hG2 := grid_set1 (v := vq) (HRQ.out.tab x'.into l2) (t := x'.to + q) (by show x'.to + q < D.sz x'.into; omega)
        have HRZ : Hid (RefIn Z B c p { D with ent := entQ D x' (q + 1) } left safe ys zs) := by
          rw [hZ]
          refine RefIn.below (HRQ.out.put (f := entQ D x' (q + 1)) l2 hC2 (hG2.congr fun i _ _ _ => ?_) (fun i k hne => ?_)) (below_drewN (Below.refl _ _) 1)
          . show Value.int .i64 (if i = x'.to + q then vq else entQ D x' q x'.into i) = Value.int .i64 (entQ D x' (q + 1) x'.into i)
            rw [entQ_succ, HVQ.out]
            by_cases e : i = x'.to + q
            . rw [if_pos e, if_pos ⟨rfl, e⟩]
            . rw [if_neg e, if_neg (fun h => e h.2)]
          . show entQ D x' (q + 1) i k = entQ D x' q i k
            rw [entQ_succ, if_neg (fun h => hne h.1)]
        have HCZ : Hid (Chg1 (p.G x'.into) w3 Z) := by rw [hZ]; exact (HCQ.out.trans hC2).drewN 1
        have hZg : Z.heap[w1.heap.size]? = wr.heap[w1.heap.size]? := by rw [hZ]; exact heap_setCell_other wr ⟨p.G x'.into, x'.to + q, none⟩ w1.heap.size _ (by show w1.heap.size ≠ p.G x'.into; omega)
        rw [<- hZ]
        clear hZ hC2 hG2 y0 y1 y2 y3 y4 y5 y6 y7 y8 hcT hfz hcE hcv
        obtain ⟨y0, y1, y2, y3, y4, y5, y6, y7, y8⟩ := cells8 (hZg.trans HGQ.out)
        obtain ⟨k4, k5, _, _, _, _, _, _, _, _, _, _, _⟩ := HRZ.out.cells
        clear hZg
        cases b
        . rcases m1 with m0 | m0
          . have w0 : ((x'.into : Int) == 0) = true := by rw [m0]; rfl
            have w2 : ((x'.into : Int) == 2) = false := by rw [m0]; rfl
            by_cases hP : x'.to + q < D.kp x'.into
            . have hPI : decide ((x'.to : Int) + (q : Int) < (D.kp 0 : Int)) = true := by rw [m0] at hP; exact decide_eq_true (by omega)
              rw [decide_eq_true hP] at HBN
              clear hP m0
              go_wp2_with fail
              go_quiet (fail)
              go_wp2
              go_roundw
              case rel => exact ⟨q + 1, hlt, by go_num, by rw [HBN.out]; rfl, HRZ.out.below (below_drewN (Below.refl _ Z) nq), HCZ.out.drewN nq⟩
              case measure => simp [intOf]; omega
            . have hPI : decide ((x'.to : Int) + (q : Int) < (D.kp 0 : Int)) = false := by rw [m0] at hP; exact decide_eq_false (by omega)
              rw [decide_eq_false hP] at HBN
              clear hP m0
              go_wp2_with fail
              go_quiet (fail)
              go_wp2
              go_roundw
              case rel => exact ⟨q + 1, hlt, by go_num, by rw [HBN.out]; rfl, HRZ.out.below (below_drewN (Below.refl _ Z) nq), HCZ.out.drewN nq⟩
              case measure => simp [intOf]; omega
          . have w0 : ((x'.into : Int) == 0) = false := by rw [m0]; rfl
            have w2 : ((x'.into : Int) == 2) = true := by rw [m0]; rfl
            by_cases hP : x'.to + q < D.kp x'.into
            . have hPI : decide ((x'.to : Int) + (q : Int) < (D.kp 2 : Int)) = true := by rw [m0] at hP; exact decide_eq_true (by omega)
              rw [decide_eq_true hP] at HBN
              clear hP m0
              go_wp2_with fail
              go_quiet (fail)
              go_wp2
              go_roundw
              case rel => exact ⟨q + 1, hlt, by go_num, by rw [HBN.out]; rfl, HRZ.out.below (below_drewN (Below.refl _ Z) nq), HCZ.out.drewN nq⟩
              case measure => simp [intOf]; omega
            . have hPI : decide ((x'.to : Int) + (q : Int) < (D.kp 2 : Int)) = false := by rw [m0] at hP; exact decide_eq_false (by omega)
              rw [decide_eq_false hP] at HBN
              clear hP m0
              go_wp2_with fail
              go_quiet (fail)
              go_wp2
              go_roundw
              case rel => exact ⟨q + 1, hlt, by go_num, by rw [HBN.out]; rfl, HRZ.out.below (below_drewN (Below.refl _ Z) nq), HCZ.out.drewN nq⟩
              case measure => simp [intOf]; omega
        . rw [Bool.true_or] at HBN
          go_wp2_with fail
          go_quiet (fail)
          go_wp2
          go_roundw
          case rel => exact ⟨q + 1, hlt, by go_num, by rw [HBN.out], HRZ.out.below (below_drewN (Below.refl _ Z) nq), HCZ.out.drewN nq⟩
          case measure => simp [intOf]; omega
    . have hqe : q = x'.many := by omega
      have HRD : Hid (RefIn wr B c p { D with ent := entD D x' } left safe ys zs) := by
        have := HRQ.out
        rw [hqe, entQ_many D x' HOK.out] at this
        exact this
      have HBB : Hid ((decide (0 < x'.many) && decide (x'.to < D.kp x'.into)) = b) := by show _ = _; rw [HB0.out, hqe, Bool.decide_and]
      have HFC : Hid (Fc c 3 w wr) := (Fc.of_below HVB.out).chg HCQ.out (.inr (HR.out.cG _ l2))
      have hqI : ¬ (q : Int) < (x'.many : Int) := by omega
      have hsI : (1 : Int) <= (s.size : Int) := by omega
      clear hCq hRq hgq hOq hqe
      rcases HOK.out.fn with (f | f | f) | ⟨f | f, h5⟩ | ⟨f1, f2, f3, f4, f5⟩
      . have HAN : Hid (answP (entD D x') s x' = s) := by show _ = _; unfold answP; rw [if_pos (by omega)]
        rw [f] at y1
        go_wp2
        go_ret2
        exact ⟨by rw [HAN.out, HBB.out]; rfl, HRD.out, HFC.out⟩
      . have HAN : Hid (answP (entD D x') s x' = s) := by show _ = _; unfold answP; rw [if_pos (by omega)]
        rw [f] at y1
        go_wp2
        go_ret2
        exact ⟨by rw [HAN.out, HBB.out]; rfl, HRD.out, HFC.out⟩
      . have HAN : Hid (answP (entD D x') s x' = s) := by show _ = _; unfold answP; rw [if_pos (by omega)]
        rw [f] at y1
        go_wp2
        go_ret2
        exact ⟨by rw [HAN.out, HBB.out]; rfl, HRD.out, HFC.out⟩
      . have HAN : Hid (answP (entD D x') s x' = s.extract 0 5) := by show _ = _; unfold answP; rw [if_neg (by omega), if_pos (by omega)]
        rw [f] at y1
        have h5I : (5 : Int) <= (s.size : Int) := by omega
        go_wp2
        go_ret2
        exact ⟨by rw [HAN.out, HBB.out]; rfl, HRD.out, HFC.out⟩
      . have HAN : Hid (answP (entD D x') s x' = s.extract 0 5) := by show _ = _; unfold answP; rw [if_neg (by omega), if_pos (by omega)]
        rw [f] at y1
        have h5I : (5 : Int) <= (s.size : Int) := by omega
        go_wp2
        go_ret2
        exact ⟨by rw [HAN.out, HBB.out]; rfl, HRD.out, HFC.out⟩
      . obtain ⟨d, hd⟩ : ∃ d, d = readP (entD D x') x' := ⟨_, rfl⟩
        have HAN : Hid (answP (entD D x') s x' = s.extract 0 1 ++ toldR d) := by show _ = _; unfold answP; rw [if_neg (by omega), if_neg (by omega), told_eq s _ hs, hd]
        have g1 : ((x'.fn : Int) == 5) = false := by rw [beq_eq_false_iff_ne]; omega
        have g2 : ((x'.fn : Int) == 6) = false := by rw [beq_eq_false_iff_ne]; omega
        have g3 : ((x'.fn : Int) == 22) = false := by rw [beq_eq_false_iff_ne]; omega
        have g4 : ((x'.fn : Int) == 15) = false := by rw [beq_eq_false_iff_ne]; omega
        have g5 : ((x'.fn : Int) == 16) = false := by rw [beq_eq_false_iff_ne]; omega
        have HTO : Hid (∀ n : Nat, Calls Tryz.prog 135 #[.pointer (some ⟨p.r, 0, none⟩), shV x' (.slice a x'.vals.length cp)] (wr.drewN n) fun e w' => ∃ v, e = .returned v /\ (v = .string (toldR d) /\ Below (wr.drewN n).heap.size (wr.drewN n) w')) := fun n => by rw [hd]; exact rtold_step (wr.drewN n) B c p { D with ent := entD D x' } left safe ys zs x' a x'.vals.length cp (HRD.out.below (below_drewN (Below.refl _ wr) n)) l1 q1 (HZ.out _ l1) (entD_ok HEN.out HOK.out)
        have hdl : (toldR d).size <= 300 := by
          unfold toldR
          rw [ByteArray.size_append, hd]
          have := readP_size (entD D x') x' (by have := HZ.out _ l1; omega)
          show 1 + _ <= 300
          omega
        have hel : (s.extract 0 1).size = 1 := by rw [ByteArray.size_extract]; omega
        have hlim : ¬ 9223372036854775807 < 1 + (toldR d).size := by omega
        clear f1 f2 f3 f4 f5 hd
        go_wp2_with fail
        go_region_law (refine step_call rfl 135 #[.tmp 157, .tmp 158] #[50, 144] rfl #[.pointer (some ⟨p.r, 0, none⟩), shV x' (.slice a x'.vals.length cp)] (by simp [Act.eval, shV]) (enter135 _ _ _) _ (HTO.out 1) ?_; rintro v w5 ⟨rfl, hb5⟩)
        all_goals
          have HB5 := hideF hb5
          clear hb5
          go_wp2
          go_ret2
          exact ⟨by rw [HAN.out, HBB.out]; rfl, (HRD.out.below (below_drewN (Below.refl _ wr) 1)).below HB5.out, (HFC.out.drewN 1).then_below HB5.out⟩
end Go.Proofs.YtcpldcojckhapaaGreat

set_option maxRecDepth 100000
namespace Go.Proofs.YtcpldcojckhapaaGreat
open Go.RowKit
theorem request_any (w : World) (B : Nat) (c : Nat -> Nat) (p : Rfm) (D : Dev) (left : List (List Int)) (safe : Nat) (ys : Nat -> ByteArray) (zs : Nat -> Bool) (s : ByteArray) (x : Pl.Shp) (k : Nat) (h : RefIn w B c p D left safe ys zs) (hsh : Pl.ShpIs s x k) (hs : 0 < s.size) (hs2 : s.size <= 253) (hz : ∀ i, i < 4 -> D.sz i <= 60) (he : EntOk D.ent) :
    Calls Tryz.prog 106 #[.pointer (some ⟨p.r, 0, none⟩), .string s] w fun e w' => e = .returned (.tuple #[.string (doR D s x k), .bool (doB D x k)]) /\ RefIn w' B c p { D with ent := doE D x k } left safe ys zs /\ Fc c 3 w w' := by
  by_cases hx : doX D x k = 0
  . have hk : k = 0 := by unfold doX at hx; split at hx <;> omega
    subst hk
    have hhas : hasB D x = true := by
      unfold doX at hx
      rw [if_neg (by omega)] at hx
      by_cases hb : hasB D x = true
      . exact hb
      . rw [if_neg hb] at hx; omega
    refine (request_yes w B c p D left safe ys zs s x h hsh hs hs2 hhas hz he).mono ?_
    rintro e w' ⟨rfl, h1, h2⟩
    have e1 : doR D s x 0 = answP (entD D x) s x := by unfold doR; rw [if_pos hx]
    have e2 : doE D x 0 = entD D x := by unfold doE; rw [if_pos hx]
    have e3 : doB D x 0 = (decide (0 < x.many) && decide (x.to < D.kp x.into)) := by unfold doB; rw [decide_eq_true hx, Bool.true_and]
    rw [e1, e2, e3]
    exact ⟨rfl, h1, h2⟩
  . refine (request_no w B c p D left safe ys zs s x k h hsh hs hx).mono ?_
    rintro e w' ⟨rfl, h1⟩
    have e1 : doR D s x k = excB s (doX D x k) := by unfold doR; rw [if_neg hx]
    have e2 : doE D x k = D.ent := by unfold doE; rw [if_neg hx]
    have e3 : doB D x k = false := by unfold doB; rw [decide_eq_false hx, Bool.false_and]
    rw [e1, e2, e3]
    exact ⟨rfl, h.below h1, Fc.of_below h1⟩
theorem stream_eq (m u : Nat) (b : ByteArray) : twoB m ++ twoB 0 ++ twoB (b.size + 1) ++ (⟨#[UInt8.ofNat u]⟩ ++ b) = streamB m u b := by
  unfold streamB
  rw [<- ByteArray.append_assoc]
  rfl
theorem rtwo_x (x : Int) (n : Nat) (hx : x = n) (w : World) (hn : n < 65536) : Calls Tryz.prog 136 #[.int .i64 x] w fun e w' => e = .returned (.string (twoB n)) /\ Below w.heap.size w w' := by
  subst hx
  exact rtwo_any n w hn
set_option maxHeartbeats 2000000 in
theorem answered_any (w : World) (B : Nat) (c : Nat -> Nat) (p : Rfm) (D : Dev) (left : List (List Int)) (safe : Nat) (ys : Nat -> ByteArray) (zs : Nat -> Bool) (i m u : Nat) (s b : ByteArray) (h : RefIn w B c p D left safe ys zs) (hi : i < D.nl) (_hnl : D.nl <= 4) (hk : (D.ln i).kind = 0) (hm : m < 65536) (hu : u < 256) (hb : b.size <= 300) :
    Calls Tryz.prog 107 #[.pointer (some ⟨p.r, 0, none⟩), .int .i64 (i : Nat), .agg #[.int .i64 (m : Nat), .int .i64 (u : Nat), .string s], .string b] w fun e w' => e = .returned (.string (streamB m u b)) /\ Below w.heap.size w w' := by
  obtain ⟨W, hW⟩ : ∃ W, W = w.alloc (.cells #[.int .i64 (m : Nat), .int .i64 (u : Nat), .string s] 94) := ⟨_, rfl⟩
  have hWb : Below w.heap.size w W := by rw [hW]; exact bel_alloc (Below.refl _ _) _
  have hWs : W.heap.size = w.heap.size + 1 := by rw [hW]; simp
  have hWg : W.heap[w.heap.size]? = some (.cells #[.int .i64 (m : Nat), .int .i64 (u : Nat), .string s] 94 (0, 0)) := by rw [hW]; exact heap_alloc_new w _
  obtain ⟨_, _, _, c7, _, _, _, _, _, _, _, _, hrl⟩ := h.cells
  have hln0 := h.lns i hi
  obtain ⟨cb, hcb⟩ := h.lnb
  have hll := lt_of_block hcb
  have hln : w.cell? ⟨p.lb, i, none⟩ = some (.int .i64 0) := by rw [hln0, hk]; rfl
  clear hln0
  have hiI : (i : Int) < (D.nl : Int) := by omega
  have c1 := conv1_at
  have HWB := hideF hWb
  have HWG := hideF hWg
  have hlim : ¬ 9223372036854775807 < (ByteArray.mk #[UInt8.ofNat u]).size + b.size := by show ¬ _ < 1 + _; omega
  clear h hWb hWg hcb hk
  go_enter Tryz.func107, Tryz.ntmps107
  go_wp2_with fail
  rw [<- hW]
  clear hW
  refine (rtwo_x _ m rfl _ hm).mono ?_
  rintro e w1 ⟨rfl, hb1⟩
  have HB1 := hideF (bel_then HWB.out (bel_then (bel_alloc (Below.refl _ W) _) hb1))
  clear hb1 c1 c7 hln
  go_wp2_with fail
  refine (rtwo_x _ 0 rfl _ (by omega)).mono ?_
  rintro e w2 ⟨rfl, hb2⟩
  have HB2 := hideF (bel_then HB1.out hb2)
  clear hb2
  have s1 : (twoB m).size = 2 := rfl
  have s0 : (twoB 0).size = 2 := rfl
  have s2 : (twoB (b.size + 1)).size = 2 := rfl
  have s3 : (ByteArray.mk #[UInt8.ofNat u]).size = 1 := rfl
  go_wp2_with fail
  refine (rtwo_x _ (b.size + 1) (by simp; omega) _ (by omega)).mono ?_
  rintro e w3 ⟨rfl, hb3⟩
  have HB3 := hideF (bel_then HB2.out hb3)
  clear hb3
  go_wp2
  go_ret
  exact ⟨by rw [<- stream_eq]; rfl, HB3.out⟩
end Go.Proofs.YtcpldcojckhapaaGreat

set_option maxRecDepth 100000
namespace Go.Proofs.YtcpldcojckhapaaGreat
open Go.RowKit
section
variable {w w' : World} {B : Nat} {c c' : Nat -> Nat} {p : Rfm} {D : Dev} {left : List (List Int)} {safe : Nat} {ys : Nat -> ByteArray} {zs : Nat -> Bool}
theorem RefIn.turn2 {wv' lv' : Value} {vs' : List Value} {D' : Dev} {left' : List (List Int)} {safe' : Nat} (h : RefIn w B c p D left safe ys zs) (hs : w.heap.size <= w'.heap.size) (hk : ∀ g, g < w.heap.size -> g ≠ p.r -> p.wv.ownBlock ≠ some g -> p.lv.ownBlock ≠ some g -> w'.heap[g]? = w.heap[g]?) (ha : Agr w c c') (hd : w'.heap[p.r]? = some (.cells (refC { p with wv := wv', lv := lv', vs := vs' } D' safe') 48 (0, 0)))
    (e1 : D'.sz = D.sz) (e2 : D'.ent = D.ent) (e3 : D'.nl = D.nl) (e4 : D'.ln = D.ln) (hwt : w'.ownsRow B 113 3 wv' D'.wait.length (D'.wait.flatMap encW)) (hlf : w'.ownsRow B 28 1 lv' left'.length vs') (hlfs : ∀ (j : Nat) (l : List Int), left'[j]? = some l -> ∃ v, vs'[j]? = some v /\ w'.ownsRow B 3 1 v l.length (l.flatMap encI) /\ ∀ g, v.ownBlock = some g -> c' g = 4) (hcw : ∀ g, wv'.ownBlock = some g -> c' g = 3) (hcl : ∀ g, lv'.ownBlock = some g -> c' g = 3) :
    RefIn w' B c' { p with wv := wv', lv := lv', vs := vs' } D' left' safe' ys zs := by
  obtain ⟨cb, hcb⟩ := h.lnb
  have hw : ∀ {g : Nat} {cur : Array Value} {t : TypeId}, w.heap[g]? = some (.cells cur t (0, 0)) -> t ≠ 48 -> t ≠ 113 -> t ≠ 28 -> w'.heap[g]? = w.heap[g]? := fun {g cur t} hg t1 t2 t3 => by
    refine hk g (lt_of_block hg) (ne_types hg h.dev t1) (fun e => ?_) (fun e => ?_)
    . obtain ⟨c1, h1⟩ := own_block h.wt g e
      exact ne_types hg h1 t2 rfl
    . obtain ⟨c1, h1⟩ := own_block h.lf g e
      exact ne_types hg h1 t3 rfl
  have hl : w'.heap[p.lb]? = w.heap[p.lb]? := hw hcb (by decide) (by decide) (by decide)
  refine ⟨hd, fun i hi => ?_, h.inj, ⟨cb, hl.trans hcb⟩, fun i hi => ?_, ?_, ?_, hwt, hlf, hlfs, (ha _ (lt_of_block h.dev)).trans h.cr, fun i hi => (ha _ (h.tab i hi).lt).trans (h.cG i hi), (ha _ h.ybs.lt).trans h.cy, (ha _ h.zbs.lt).trans h.cz, hcw, hcl, (ha _ (lt_of_block hcb)).trans h.cb, h.lo.1, h.lo.2.1, h.lo.2.2.1, h.lo.2.2.2.1, Nat.le_trans h.lo.2.2.2.2 hs⟩
  . obtain ⟨cg, hcg⟩ := (h.tab i hi).block
    rw [e1, e2]
    exact (h.tab i hi).same (hw hcg (by decide) (by decide) (by decide))
  . rw [e3] at hi
    rw [e4]
    have := h.lns i hi
    unfold World.cell? at this ⊢
    simp only at this ⊢
    rw [hl]; exact this
  . obtain ⟨cg, hcg⟩ := h.ybs.block
    rw [e3]
    exact h.ybs.same (hw hcg (by decide) (by decide) (by decide))
  . obtain ⟨cg, hcg⟩ := h.zbs.block
    rw [e3]
    exact h.zbs.same (hw hcg (by decide) (by decide) (by decide))
end
theorem Tryz.infoE28 : (Tryz.prog.info? 28).map (fun i => (i.zero, i.size, i.bytes)) = some (some (.slice none 0 0), 1, 24) := by kernel_rfl
theorem Tryz.infoE113 : (Tryz.prog.info? 113).map (fun i => (i.zero, i.size, i.bytes)) = some (some (.agg #[.int .i64 0, .string ⟨#[]⟩, .int .i64 0]), 3, 32) := by kernel_rfl
noncomputable def takeW (D : Dev) (i m u : Nat) (s : ByteArray) : List (Int × Int × ByteArray) :=
  if u ≠ D.unit then [] else if (midP D s).uns = 0 then [ansP D i m s] else if D.batch <= D.wait.length + 1 then D.wait ++ [ansP D i m s] else []
noncomputable def takeF (D : Dev) (s : ByteArray) : Prop := (midP D s).uns = 0 ∨ D.batch <= D.wait.length + 1
noncomputable def takeL (D : Dev) (u : Nat) (s : ByteArray) (left : List (List Int)) : List (List Int) := if u ≠ D.unit then left else left ++ [keptL (midP D s).ent (D.kp 0) (D.kp 2)]
open Classical in
noncomputable def takeS (D : Dev) (u : Nat) (s : ByteArray) (n safe : Nat) : Nat := if u ≠ D.unit then safe else if takeF D s then n else safe
end Go.Proofs.YtcpldcojckhapaaGreat
