/-
  
-/
import Derived.Test.YtcpldcojckhapaaGreatJ27
import Derived.Test.YtcpldcojckhapaaGreatJ25
import Derived.Test.YtcpldcojckhapaaGreatJ43
import Derived.Test.YtcpldcojckhapaaGreatJ39
import Derived.Test.YtcpldcojckhapaaGreatJ40
set_option maxRecDepth 100000
namespace Go.Proofs.YtcpldcojckhapaaGreat
open Go.RowKit
def bks0 : Bks := ⟨.slice none 0 0, .slice none 0 0, .slice none 0 0, .slice none 0 0, .slice none 0 0, .slice none 0 0, .slice none 0 0, .slice none 0 0, .slice none 0 0, .slice none 0 0, .slice none 0 0, .slice none 0 0, 0, 0, 0, 0, fun _ => False, fun _ => False, fun _ => False, fun _ => False, [], [], [], []⟩
theorem bks0_on {kb g : Nat} (h : bks0.on kb g) : g = kb := by
  unfold Bks.on Bks.ints bks0 at h
  simpa [Value.ownBlock] using h
theorem book_new (w : World) (B kb : Nat) (h : w.heap[kb]? = some (.cells #[.slice none 0 0, .slice none 0 0, .slice none 0 0, .slice none 0 0, .bool false, .slice none 0 0, .slice none 0 0, .slice none 0 0, .slice none 0 0, .slice none 0 0, .slice none 0 0, .slice none 0 0, .slice none 0 0] 33 (0, 0))) (hB : B <= kb) : BookIn w B kb 0 bks0 := by
  have hl := lt_of_block h
  exact ⟨h, lists_nil _ _ _ _ _ _ _, lists_nil _ _ _ _ _ _ _, lists_nil _ _ _ _ _ _ _, lists_nil _ _ _ _ _ _ _, fun _ h => h.elim, fun _ h => h.elim, fun _ h => h.elim, fun _ h => h.elim, World.ownsRow_nil _ _ _ _, World.ownsRow_nil _ _ _ _, World.ownsRow_nil _ _ _ _, World.ownsRow_nil _ _ _ _, World.ownsRow_nil _ _ _ _, World.ownsRow_nil _ _ _ _, World.ownsRow_nil _ _ _ _, World.ownsRow_nil _ _ _ _, ⟨rfl, Nat.le_refl _⟩, ⟨rfl, Nat.le_refl _⟩, ⟨rfl, Nat.le_refl _⟩, ⟨rfl, Nat.le_refl _⟩, Nat.zero_le _, Nat.zero_le _, Nat.zero_le _, Nat.zero_le _, fun g hg => by rw [bks0_on hg]; exact hl, hB, by omega⟩
theorem book_ends (w : World) (B kb m : Nat) (b : Bks) (h : BookIn w B kb m b) (hm : m <= 1000000) :
    Calls Tryz.prog 11 #[.pointer (some ⟨kb, 0, none⟩)] w fun e w' => e = .returned (.bool true) /\ Below B w w' :=
  ends_any w B kb b.oI b.oF b.oA b.oT b.cI b.wI b.cF b.wF b.cA b.wA b.cT b.wT b.nI b.nF b.nA b.nT b.pI b.pF b.pA b.pT b.xI b.xF b.xA b.xT h.at' h.LI h.PI h.LF h.PF h.LA h.PA h.LT h.PT h.CI h.WI h.CF h.WF h.CA h.WA h.CT h.WT ⟨h.nI.1, by have := h.nI.2; omega⟩ h.xI ⟨h.nF.1, by have := h.nF.2; omega⟩ h.xF ⟨h.nA.1, by have := h.nA.2; omega⟩ h.xA ⟨h.nT.1, by have := h.nT.2; omega⟩ h.xT h.lo.2 h.lo.1
set_option maxHeartbeats 1000000 in
theorem known_any (w : World) : Calls Tryz.prog 8 #[] w fun e w' => ∃ g, e = .returned (.agg #[.int .i64 10, .int .i64 10, .int .i64 10, .int .i64 10, .int .i64 5, .int .i64 5, .int .i64 1, .slice (some ⟨g, 0, none⟩) 1 1, .int .i64 3]) /\ w'.heap[g]? = some (.cells #[.int .i64 0] 3 (0, 0)) /\ w.heap.size <= g /\ Below w.heap.size w w' := by
  go_enter Tryz.func8, Tryz.ntmps8
  go_wp2
  obtain ⟨X, hX⟩ : ∃ X, X = w.alloc (Obj.cells #[.int .i64 10, .int .i64 10, .int .i64 10, .int .i64 10, .int .i64 5, .int .i64 5, .int .i64 1, .slice (some ⟨w.heap.size + 1, 0, none⟩) 1 1, .int .i64 3] 39) := ⟨_, rfl⟩
  have hXs : X.heap.size = w.heap.size + 1 := by rw [hX]; generalize Obj.cells _ _ = o; simp
  have hXb : Below w.heap.size w X := by rw [hX]; exact bel_alloc (Below.refl _ _) _
  have hXg : (X.alloc (Obj.cells #[.int .i64 0] 3)).heap[w.heap.size]? = some (.cells #[.int .i64 10, .int .i64 10, .int .i64 10, .int .i64 10, .int .i64 5, .int .i64 5, .int .i64 1, .slice (some ⟨w.heap.size + 1, 0, none⟩) 1 1, .int .i64 3] 39 (0, 0)) := by
    rw [(bel_alloc (Below.refl X.heap.size X) _).block _ (by omega), hX]; exact heap_alloc_new w _
  rw [<- hX]
  obtain ⟨Y, hY⟩ : ∃ Y, Y = X.alloc (Obj.cells #[.int .i64 0] 3) := ⟨_, rfl⟩
  have hYb : Below w.heap.size w Y := by rw [hY]; exact bel_alloc hXb _
  have hYg : Y.heap[w.heap.size + 1]? = some (.cells #[.int .i64 0] 3 (0, 0)) := by rw [hY, <- hXs]; exact heap_alloc_new X _
  rw [<- hY] at hXg ⊢
  obtain ⟨r0, r1, r2, r3, r4, r5, r6, r7, r8⟩ := cells9 hXg
  clear hX hY hXg
  refine bodyPost_ret (v := .agg #[.int .i64 10, .int .i64 10, .int .i64 10, .int .i64 10, .int .i64 5, .int .i64 5, .int .i64 1, .slice (some ⟨w.heap.size + 1, 0, none⟩) 1 1, .int .i64 3]) ?_ rfl ⟨_, rfl, hYg, by omega, hYb⟩
  simp [results, Tryz.results8, go_sem, r0, r1, r2, r3, r4, r5, r6, r7, r8]
end Go.Proofs.YtcpldcojckhapaaGreat

set_option maxRecDepth 100000
namespace Go.Proofs.YtcpldcojckhapaaGreat
open Go.RowKit
theorem bk_start {w : World} {B kb : Nat} (h : w.heap[kb]? = some (.cells #[.slice none 0 0, .slice none 0 0, .slice none 0 0, .slice none 0 0, .bool false, .slice none 0 0, .slice none 0 0, .slice none 0 0, .slice none 0 0, .slice none 0 0, .slice none 0 0, .slice none 0 0, .slice none 0 0] 33 (0, 0))) (hB : B <= kb) : ∃ c, BkC w B c kb 0 bks0 /\ Nrm w B c :=
  ⟨nc w B (fun _ => 1), BkC.nc ⟨book_new w B kb h hB, fun _ _ => rfl, fun g hg => by rw [bks0_on hg]; exact hB, fun g hg => by rw [bks0_on hg]; exact ⟨_, _, h, by decide⟩⟩, nc_nrm _ _ _⟩
theorem CfgOk.cf {s0 s1 s2 s3 c h u b : Int} {n : Nat} {ln : Nat -> Int} (hk : CfgOk s0 s1 s2 s3 c h u n ln b) : ∃ F : Cf, CfOk F /\ s0 = (F.s0 : Nat) /\ s1 = (F.s1 : Nat) /\ s2 = (F.s2 : Nat) /\ s3 = (F.s3 : Nat) /\ c = (F.c : Nat) /\ h = (F.h : Nat) /\ u = (F.u : Nat) /\ n = F.n /\ b = (F.b : Nat) /\ ∀ j, j < n -> ln j = (F.kn j : Nat) := by
  have h0 := hk.sz 0 (by omega)
  have h1 := hk.sz 1 (by omega)
  have h2 := hk.sz 2 (by omega)
  have h3 := hk.sz 3 (by omega)
  simp only [szI] at h0 h1 h2 h3
  simp at h0 h1 h2 h3
  have hc := hk.c
  have hh := hk.h
  have hu := hk.u
  have hb := hk.b
  refine ⟨⟨s0.toNat, s1.toNat, s2.toNat, s3.toNat, c.toNat, h.toNat, u.toNat, n, b.toNat, fun j => (ln j).toNat⟩, ⟨?_, ?_, ?_, ?_, ?_, ?_, ⟨?_, ?_⟩, hk.n, ⟨?_, ?_⟩, fun j hj => ?_⟩, ?_, ?_, ?_, ?_, ?_, ?_, ?_, rfl, ?_, fun j hj => ?_⟩
  all_goals first
    | (have := hk.ln j hj; show _ = ((ln j).toNat : Int); omega)
    | (have := hk.ln j hj; show (ln j).toNat <= 1; omega)
    | (simp only []; omega)
section
variable {w w' : World} {B : Nat} {c : Nat -> Nat} {q1 : Plc} {D : Dev} {kb m : Nat} {b : Bks} {F : Cf} {p : Rfm} {left : List (List Int)} {safe : Nat} {ys : Nat -> ByteArray} {zs : Nat -> Bool} {nd g : Nat} {f : Nat -> ByteArray} {dv : Value}
theorem rig_made (hbk : BkC w B c kb m b) (hrf : RefIn w B c p D left safe ys zs) (hlb : B <= p.lb) (hcf : OfCf D F) (hbl : Below w.heap.size w w') (hg : w'.heap[g]? = some (.cells (rigC { q1 with g := g, p := p, dv := dv, wt := .slice none 0 0 } D 0) 52 (0, 0))) (hgw : w.heap.size <= g) (hdv : w'.ownsRow w.heap.size 9 1 dv nd (secV f nd)) :
    StB w' B (nc w' B (colN w c 7)) { q1 with g := g, p := p, dv := dv, wt := .slice none 0 0 } kb m b F D { dk := f, wet := [], least := 0 } left safe ys zs nd := by
  have hB := hbk.bk.lo.2
  exact StB.norm (hbk.frame (k := 9) (Fc.of_below hbl) (colN_agr w c 7) (by decide)) (hrf.frame (k := 9) (Fc.of_below hbl) (colN_agr w c 7) (by decide) (by decide) (by decide)) ⟨hg, own_base hdv hB, World.ownsRow_nil _ _ _ _, colN_new _ _ 7 _ hgw, fun x hx => colN_new _ _ 7 x (hdv.lt x hx).1, (fun x hx => by cases hx), by show B <= g; omega⟩ hlb hcf
end
end Go.Proofs.YtcpldcojckhapaaGreat

set_option maxRecDepth 100000
namespace Go.Proofs.YtcpldcojckhapaaGreat
open Go.RowKit
theorem readyA_len (f : Nat -> ByteArray) (sec : Nat) (hs : sec <= 3) : (readyA f sec (latC f sec) (stC f sec)).length <= 100 := by
  have := (rdS_bd f sec (latC f sec) (stC f sec) (latC_le _ _) (stC_le _ _) 2).2.2
  unfold readyA
  split
  . simp
  . rw [List.length_append, List.length_singleton]; omega
def knF : Cf := ⟨10, 10, 10, 10, 5, 5, 1, 1, 3, fun _ => 0⟩
theorem knF_ok : CfOk knF := ⟨by decide, by decide, by decide, by decide, by decide, by decide, by decide, by decide, by decide, fun _ _ => Nat.zero_le _⟩
def knD : Dev := { knF.dev 0 0 0 ⟨#[]⟩ with ent := entK 5 [] }
theorem knD_of : OfCf knD knF := ⟨rfl, rfl, rfl, rfl, rfl, rfl, fun _ => rfl⟩
def knV (g cap : Nat) : Array Value := #[.int .i64 10, .int .i64 10, .int .i64 10, .int .i64 10, .int .i64 5, .int .i64 5, .int .i64 1, .slice (some ⟨g, 0, none⟩) 1 cap, .int .i64 3]
theorem kn_needs (w : World) (g : Nat) (hg : g < w.heap.size) (hc : w.cell? ⟨g, 0, none⟩ = some (.int .i64 0)) :
    Calls Tryz.prog 12 #[.agg (knV g 1)] w fun e w' => e = .returned (.tuple #[.int .i64 2, .bool true]) /\ Below w.heap.size w w' := by
  have hv : Vals w (some ⟨g, 0, none⟩) 1 (fun _ => 0) := fun j hj => by
    obtain rfl : j = 0 := by omega
    exact ⟨g, 0, rfl, hg, hc, by decide, by decide⟩
  refine (needs_gen 10 10 10 10 5 5 1 3 1 1 (some ⟨g, 0, none⟩) (fun _ => 0) w hv (by decide)).mono ?_
  rintro e w' ⟨⟨h1, _⟩ | ⟨_, h2⟩, hb⟩
  . exfalso
    refine h1 ⟨fun q hq => ?_, fun _ _ => .inl rfl, by decide, by decide, by decide, by decide, by decide⟩
    rcases (show q = 0 ∨ q = 1 ∨ q = 2 ∨ q = 3 by omega) with rfl | rfl | rfl | rfl <;> decide
  . exact ⟨h2, hb⟩
structure KnO (w wx : World) (B : Nat) (kb m g : Nat) (c1 : Nat -> Nat) (b1 : Bks) (dv ov : Value) : Prop where
  bk : BkC wx B c1 kb m b1
  nr : Nrm wx B c1
  dv : ∃ d, dv = .pointer (some ⟨d, 0, none⟩)
  ow : wx.ownsRow B 77 4 ov (readyA (fun _ => blank64) 1 (latC (fun _ => blank64) 1) (stC (fun _ => blank64) 1)).length ((readyA (fun _ => blank64) 1 (latC (fun _ => blank64) 1) (stC (fun _ => blank64) 1)).flatMap encA)
  co : ∀ x, ov.ownBlock = some x -> c1 x = 9
  bx : wx.heap[w.heap.size]? = some (.cells (knV g 1) 39 (0, 0))
  li : wx.heap[g]? = some (.cells #[.int .i64 0] 3 (0, 0))
  bl : Below B w wx
theorem kn_opens (w w1 : World) (B kb m g : Nat) (c : Nat -> Nat) (b : Bks) (av kv : Nat) (aa : Option Addr) (hbk : BkC w B c kb m b) (hm : m <= 800000) (hg : w.heap[g]? = some (.cells #[.int .i64 0] 3 (0, 0))) (hno : ¬ b.on kb g) (hgc : B <= g -> c g = 9) (hb1 : Below w.heap.size w w1) (hbx : w1.heap[w.heap.size]? = some (.cells (knV g 1) 39 (0, 0))) (hdv : w1.ownsRow (w.heap.size + 1) 9 1 (.slice aa 2 kv) 2 (secV (fun _ => blank64) 2)) (_ha : av = 0) :
    Calls Tryz.prog 13 #[.agg (knV g 1), .slice aa 2 kv, .pointer (some ⟨kb, 0, none⟩)] w1 fun e w' => ∃ dv ov c1 b1, e = .returned (.tuple #[dv, ov, .int .i64 0, .bool true]) /\ KnO w w' B kb (m + 5) g c1 b1 dv ov := by
  have hB := hbk.bk.lo.2
  have hgl := lt_of_block hg
  have hg1 := (hb1.block g hgl).trans hg
  have hc1 : BkC w1 B (nc w1 B (colN w c 9)) kb m b := (hbk.frame (k := 9) (Fc.of_below hb1) (colN_agr w c 9) (by decide)).nc
  have hcell : w1.cell? ⟨g, 0, none⟩ = some (.int .i64 0) := (cell_of_row _ _ _ _ _ _ hg1).trans rfl
  have hgl1 := lt_of_block hg1
  obtain ⟨_, _, e0, hcs⟩ := own_view hdv
  simp only [Value.slice.injEq, true_and] at e0
  obtain ⟨rfl, rfl⟩ := e0
  refine (opens_dev w1 B kb m (nc w1 B (colN w c 9)) b knF 1 2 kv (some ⟨g, 0, none⟩) aa (fun _ => blank64) hc1 (nc_nrm _ _ _) knF_ok (by omega) ?_ ?_ ?_ (row_src hdv) ?_ ⟨by decide, by decide⟩ ?_ (fun _ _ => by decide)).mono ?_
  . intro j hj
    obtain rfl : j = 0 := by have : j < 1 := hj; omega
    exact ⟨g, 0, rfl, hgl1, hcell, by decide, by decide⟩
  . refine .inr ⟨_, _, rfl, fun j u hj => ?_⟩
    obtain ⟨x, h1, rfl⟩ := encI_atL _ j u hj
    rw [List.getElem?_map] at h1
    obtain ⟨y, h2, rfl⟩ := Option.map_eq_some_iff.1 h1
    obtain ⟨h3, h4⟩ := List.getElem?_eq_some_iff.1 h2
    have h5 : j < 1 := by have h6 : j < (List.range knF.n).length := h3; rw [List.length_range] at h6; exact h6
    obtain rfl : j = 0 := by omega
    exact hcell
  . intro a ha
    cases ha
    exact ⟨hgl1, hno⟩
  . intro j hj
    obtain ⟨x, h1, h2, h3⟩ := hcs 0 (by omega)
    refine ⟨x, 0, h1, h2, ?_⟩
    rw [Nat.zero_add, h3 j (by omega)]
    have : j = 0 ∨ j = 1 := by omega
    rcases this with rfl | rfl <;> rfl
  . intro a ha
    obtain ⟨x, h1, h2, h3⟩ := hcs 0 (by omega)
    rw [ha] at h1
    cases h1
    refine ⟨h2, fun h => ?_⟩
    have h4 := hbk.bk.here x h
    have h5 := (hdv.lt x (by rw [ha]; rfl)).1
    omega
  . rintro e w' ⟨q1, ov, b', c', N, rfl, hbk', hnr', hdv', hov', hco', hag, hfc⟩
    have hcb : nc w1 B (colN w c 9) w.heap.size = 9 := nc_at hB hbx (by decide) (colN_new w c 9 _ (Nat.le_refl _)) (by decide)
    have hB1 : B <= w1.heap.size := hc1.bk.lo.2
    have hcg : nc w1 B (colN w c 9) g ≠ 1 := by
      by_cases h0 : g < B
      . rw [((nc_nrm w1 B (colN w c 9)).zero g).2 h0]; decide
      . rw [nc_at (by omega) hg1 (by decide) ((colN_agr w c 9 g hgl).trans (hgc (by omega))) (by decide)]; decide
    refine ⟨_, ov, c', b', rfl, hbk', hnr', ⟨_, rfl⟩, own_base hov' hB1, hco', (hfc.keep _ _ _ hbx (.inl (by decide)) (by rw [hcb]; decide)).trans hbx, (hfc.keep _ _ _ hg1 (.inl (by decide)) hcg).trans hg1, (hb1.mono hB).trans (hfc.toBelow (nc_nrm _ _ _) (by decide) hB1)⟩
set_option maxHeartbeats 8000000 in
theorem begun_any (w : World) (B kb m g : Nat) (c : Nat -> Nat) (b : Bks) (hbk : BkC w B c kb m b) (hm : m <= 800000) (hg : w.heap[g]? = some (.cells #[.int .i64 0] 3 (0, 0))) (hno : ¬ b.on kb g) (hgc : B <= g -> c g = 9) :
    Calls Tryz.prog 7 #[.agg (knV g 1), .int .i64 0, .pointer (some ⟨kb, 0, none⟩)] w fun e w' => ∃ r, e = .returned (.tuple #[.pointer (some ⟨r, 0, none⟩), .bool true]) /\ ∃ c' b', BkC w' B c' kb (m + 5) b' /\ Nrm w' B c' /\ Below B w w' := by
  have hB := hbk.bk.lo.2
  have hgl := lt_of_block hg
  obtain ⟨X, hX⟩ : ∃ X, X = w.alloc (.cells (knV g 1) 39) := ⟨_, rfl⟩
  have hXb : Below w.heap.size w X := by rw [hX]; exact bel_alloc (Below.refl _ _) _
  have hXs : X.heap.size = w.heap.size + 1 := by rw [hX]; generalize Obj.cells _ _ = o; simp
  have hXg : X.heap[w.heap.size]? = some (.cells (knV g 1) 39 (0, 0)) := by rw [hX]; exact heap_alloc_new w _
  have hXc : X.cell? ⟨g, 0, none⟩ = some (.int .i64 0) := (cell_of_row _ _ _ _ _ _ ((hXb.block g hgl).trans hg)).trans rfl
  have HN := hideF (kn_needs X g (by omega) hXc)
  obtain ⟨x0, x1, x2, x3, x4, x5, x6, x7, x8⟩ := cells9 hXg
  have HXB := hideF hXb
  have HXG := hideF hXg
  unfold knV at hX ⊢
  have HN' : Hid (Calls Tryz.prog 12 #[.agg #[.int .i64 10, .int .i64 10, .int .i64 10, .int .i64 10, .int .i64 5, .int .i64 5, .int .i64 1, .slice (some ⟨g, 0, none⟩) 1 1, .int .i64 3]] X fun e w' => e = .returned (.tuple #[.int .i64 2, .bool true]) /\ Below X.heap.size X w') := HN
  clear hXg hXb hXc HN
  go_enter Tryz.func7, Tryz.ntmps7
  go_upto_region 1 with fail
  rw [<- hX]
  clear hX
  go_wp2_with fail
  refine HN'.out.mono ?_
  rintro e w1 ⟨rfl, hb1⟩
  have HB1 := hideF (bel_then HXB.out hb1)
  have hbx1 := (hb1.block w.heap.size (by omega)).trans HXG.out
  have hs1 := hb1.size
  obtain ⟨y0, y1, y2, y3, y4, y5, y6, y7, y8⟩ := cells9 hbx1
  have HBX1 := hideF hbx1
  have HBL : Hid (Calls Tryz.prog 31 #[.int .i64 2] w1.drew fun e w' => ∃ v, e = .returned v /\ w'.ownsRow w1.drew.heap.size 9 1 v 2 (secV (fun _ => blank64) 2) /\ Below w1.drew.heap.size w1.drew w') := blank_any 2 w1.drew (by omega)
  have HOP : Hid (∀ (w5 : World) (aa : Option Addr) (kv : Nat), w5.ownsRow w1.drew.heap.size 9 1 (.slice aa 2 kv) 2 (secV (fun _ => blank64) 2) -> Below w1.drew.heap.size w1.drew w5 -> Calls Tryz.prog 13 #[.agg #[.int .i64 10, .int .i64 10, .int .i64 10, .int .i64 10, .int .i64 5, .int .i64 5, .int .i64 1, .slice (some ⟨g, 0, none⟩) 1 1, .int .i64 3], .slice aa 2 kv, .pointer (some ⟨kb, 0, none⟩)] w5 fun e w' => ∃ dv ov c1 b1, e = .returned (.tuple #[dv, ov, .int .i64 0, .bool true]) /\ KnO w w' B kb (m + 5) g c1 b1 dv ov) := fun w5 aa kv ho hb5 => by
    have hb15 := below_then_drew1 hb5
    exact kn_opens w w5 B kb m g c b 0 kv aa hbk hm hg hno hgc (bel_then HB1.out hb15) ((hb15.block _ (by omega)).trans HBX1.out) (own_base ho (by show w.heap.size + 1 <= w1.heap.size; omega)) rfl
  clear hb1 hbx1 x0 x1 x2 x3 x4 x5 x6 x7 x8
  go_upto_region 16 with fail
  go_cut [19, 20, 21, 22] from 101 to 110 (fun a b' c' d' wx => ∃ dv ov c1 b1, a = dv /\ b' = ov /\ c' = .int .i64 0 /\ d' = .bool true /\ KnO w wx B kb (m + 5) g c1 b1 dv ov)
  case first =>
    go_region_held3 (fun w' => w'.cell? ⟨w.heap.size, 0, none⟩ = some (.int .i64 10) /\ w'.cell? ⟨w.heap.size, 1, none⟩ = some (.int .i64 10) /\ w'.cell? ⟨w.heap.size, 2, none⟩ = some (.int .i64 10) /\ w'.cell? ⟨w.heap.size, 3, none⟩ = some (.int .i64 10) /\ w'.cell? ⟨w.heap.size, 4, none⟩ = some (.int .i64 5) /\ w'.cell? ⟨w.heap.size, 5, none⟩ = some (.int .i64 5) /\ w'.cell? ⟨w.heap.size, 6, none⟩ = some (.int .i64 1) /\ w'.cell? ⟨w.heap.size, 7, none⟩ = some (.slice (some ⟨g, 0, none⟩) 1 1) /\ w'.cell? ⟨w.heap.size, 8, none⟩ = some (.int .i64 3)) (go_keep)
      (first
        | (go_at_call 31; refine HBL.out.mono ?_; rintro e w5 ⟨v5, rfl, ho5, hb5⟩; obtain ⟨a5, k5, rfl, _⟩ := own_view ho5; have hb15 := below_then_drew1 hb5; obtain ⟨f0, f1, f2, f3, f4, f5, f6, f7, f8⟩ := cells9 ((hb15.block w.heap.size (by omega)).trans HBX1.out); have HO5 := hideF ho5; have HB5 := hideF hb5; clear ho5 hb5 hb15)
        | (go_at_call 13; refine (HOP.out _ _ _ HO5.out HB5.out).mono ?_; rintro e w6 ⟨dv, ov, c6, b6, rfl, hK6⟩; obtain ⟨h0, h1, h2, h3, h4, h5, h6, h7, h8⟩ := cells9 hK6.bx; have HK6 := hideF hK6; clear hK6))
    go_wp2
    go_meet
    exact ⟨_, _, _, _, rfl, rfl, rfl, rfl, HK6.out⟩
  case rest =>
    obtain ⟨dv, ov, c1, b1, rfl, rfl, rfl, rfl, hK⟩ := hcut
    obtain ⟨d, hd⟩ := hK.dv
    subst hd
    obtain ⟨A, hA⟩ : ∃ A, A = readyA (fun _ => blank64) 1 (latC (fun _ => blank64) 1) (stC (fun _ => blank64) 1) := ⟨_, rfl⟩
    have how := hK.ow
    rw [<- hA] at how
    obtain ⟨ao, ko, rfl, _⟩ := own_view how
    obtain ⟨z0, z1, z2, z3, z4, z5, z6, z7, z8⟩ := cells9 hK.bx
    have hAl : A.length <= 100 := by rw [hA]; exact readyA_len _ _ (by decide)
    have hgw := lt_of_block hK.li
    have hBc : B <= wc.heap.size := hK.bk.bk.lo.2
    have HOC := hideF (ownConfig_any 10 10 10 10 5 5 1 3 1 1 (some ⟨g, 0, none⟩) [0] wc rfl (by decide) (.inr ⟨_, _, rfl, fun j u hj => by
      obtain ⟨x, h1, rfl⟩ := encI_atL _ j u hj
      obtain ⟨h3, h4⟩ := List.getElem?_eq_some_iff.1 h1
      have h5 : j < 1 := by simpa using h3
      obtain rfl : j = 0 := by omega
      subst h4
      exact (cell_of_row _ _ _ _ _ _ hK.li).trans rfl⟩) (fun a ha => by cases ha; exact hgw))
    have HKK := hideF hK
    have HOW := hideF how
    have HA := hideF hA
    clear hK how hA y0 y1 y2 y3 y4 y5 y6 y7 y8 HOP HBL HN' HBX1 HB1 HXG HXB hs1
    go_wp2_with fail
    refine HOC.out.mono ?_
    rintro e w7 ⟨g7, cap7, rfl, ho7, hb7⟩
    obtain ⟨Y, hY⟩ : ∃ Y, Y = w7.alloc (.cells (knV g7 cap7) 39) := ⟨_, rfl⟩
    have hs7 := hb7.size
    have hYs : Y.heap.size = w7.heap.size + 1 := by rw [hY]; generalize Obj.cells _ _ = o; simp
    have hYb7 : Below w7.heap.size w7 Y := by rw [hY]; exact bel_alloc (Below.refl _ _) _
    have hYg : Y.heap[w7.heap.size]? = some (.cells (knV g7 cap7) 39 (0, 0)) := by rw [hY]; exact heap_alloc_new w7 _
    have hYb : Below wc.heap.size wc Y.drew := (bel_then hb7 hYb7).drew
    obtain ⟨u0, u1, u2, u3, u4, u5, u6, u7', u8⟩ := cells9 hYg
    have hg7 := ho7.lt g7 rfl
    obtain ⟨cl7, hcl7⟩ := own_block ho7 g7 rfl
    have hcl7' : Y.drew.heap[g7]? = some (.cells cl7 3 (0, 0)) := (hYb7.drew.block g7 hg7.2).trans hcl7
    obtain ⟨c7, hc7⟩ : ∃ c7, c7 = nc Y.drew B (colN wc c1 5) := ⟨_, rfl⟩
    have hc75 : c7 g7 = 5 := by rw [hc7]; exact nc_at (by omega) hcl7' (by decide) (colN_new wc c1 5 _ hg7.1) (by decide)
    have hbk7 : BkC Y.drew B c7 kb (m + 5) b1 := by rw [hc7]; exact (HKK.out.bk.frame (k := 9) (Fc.of_below hYb) (colN_agr wc c1 5) (by decide)).nc
    have hov7 : Y.drew.ownsRow B 77 4 (.slice ao A.length ko) A.length (A.flatMap encA) := ownsRow_below HOW.out hYb
    have hco7 : ∀ x, (Value.slice ao A.length ko).ownBlock = some x -> c7 x = 9 := by
      rw [hc7]
      exact nc_row (B := B) hov7 (Nat.le_refl _) (by decide) (by decide) (fun x hx => (colN_agr wc c1 5 x (HOW.out.lt x hx).2).trans (HKK.out.co x hx))
    have hln7 : Y.drew.cell? ⟨g7, 0, none⟩ = some (.int .i64 0) := by
      have h1 : w7.cell? ⟨g7, 0, none⟩ = some (.int .i64 0) := ho7.cells (g := g7) rfl 0 _ rfl
      exact ((bcell hYb7.drew).1 _ _ hg7.2).trans h1
    have HRO : Hid (Calls Tryz.prog 16 #[.agg #[.int .i64 10, .int .i64 10, .int .i64 10, .int .i64 10, .int .i64 5, .int .i64 5, .int .i64 1, .slice (some ⟨g7, 0, none⟩) 1 cap7, .int .i64 3], .slice none 0 0] Y.drew fun e w' => ∃ p c', e = .returned (.pointer (some ⟨p.r, 0, none⟩)) /\ RefIn w' B c' p knD [keptL knD.ent (knD.kp 0) (knD.kp 2)] 0 (fun _ => ⟨#[]⟩) (fun _ => false) /\ Agr Y.drew c7 c' /\ Below Y.drew.heap.size Y.drew w' /\ p.lb = g7 /\ p.cap = cap7 /\ Y.drew.heap.size <= p.r) :=
      ropen_any knD g7 cap7 B 0 c7 (.slice none 0 0) [] Y.drew (fun i hi => szF_le 10 10 10 10 i 60 (by decide) (by decide) (by decide) (by decide)) (by decide) (by decide) (by decide) (Nat.zero_le _) (World.ownsRow_nil _ _ _ _) (fun i k _ => rfl) ⟨cl7, hcl7'⟩ (fun i hi => by rw [show i = 0 from Nat.lt_one_iff.1 hi]; exact hln7) hc75 hbk7.bk.lo.2 rfl rfl
    have HBL2 : Hid (∀ w8 : World, Calls Tryz.prog 31 #[.int .i64 2] w8 fun e w' => ∃ v, e = .returned v /\ w'.ownsRow w8.heap.size 9 1 v 2 (secV (fun _ => blank64) 2) /\ Below w8.heap.size w8 w') := fun w8 => blank_any 2 w8 (by omega)
    have HBK7 := hideF hbk7
    have HOV7 := hideF hov7
    have HCO7 := hideF hco7
    have HBLY : Hid (Below B w Y.drew) := HKK.out.bl.trans (hYb.mono hBc)
    have HYG := hideF hYg
    have hg7B : B <= g7 := by omega
    unfold knV at hY
    clear hb7 ho7 hYb7 hYg hYb hg7 hcl7 hcl7' hc75 hc7 hbk7 hov7 hco7 hln7 HOC z0 z1 z2 z3 z4 z5 z6 z7 z8
    go_upto_region 20 with fail
    rw [<- hY]
    clear hY
    go_cut [24] from 123 to 130 (fun gv wx => ∃ (q : Plc) (c' : Nat -> Nat), gv = .pointer (some ⟨q.g, 0, none⟩) /\ StB wx B c' q kb (m + 5) b1 knF knD { dk := fun _ => blank64, wet := [], least := 0 } [keptL knD.ent (knD.kp 0) (knD.kp 2)] 0 (fun _ => ⟨#[]⟩) (fun _ => false) 2 /\ wx.ownsRow B 77 4 (.slice ao A.length ko) A.length (A.flatMap encA) /\ (∀ x, (Value.slice ao A.length ko).ownBlock = some x -> c' x = 9) /\ Below B w wx)
    case first =>
      go_region_held3 (fun w' => w'.cell? ⟨w7.heap.size, 0, none⟩ = some (.int .i64 10) /\ w'.cell? ⟨w7.heap.size, 1, none⟩ = some (.int .i64 10) /\ w'.cell? ⟨w7.heap.size, 2, none⟩ = some (.int .i64 10) /\ w'.cell? ⟨w7.heap.size, 3, none⟩ = some (.int .i64 10) /\ w'.cell? ⟨w7.heap.size, 4, none⟩ = some (.int .i64 5) /\ w'.cell? ⟨w7.heap.size, 5, none⟩ = some (.int .i64 5) /\ w'.cell? ⟨w7.heap.size, 6, none⟩ = some (.int .i64 1) /\ w'.cell? ⟨w7.heap.size, 7, none⟩ = some (.slice (some ⟨g7, 0, none⟩) 1 cap7) /\ w'.cell? ⟨w7.heap.size, 8, none⟩ = some (.int .i64 3)) (go_keep)
        (first
          | (go_at_call 16; refine HRO.out.mono ?_; rintro e w8 ⟨p, c8, rfl, hRf, hag8, hb8, hpl, hpc, hpr⟩; obtain ⟨f0, f1, f2, f3, f4, f5, f6, f7, f8⟩ := cells9 ((hb8.block w7.heap.size (show w7.heap.size < Y.drew.heap.size by show _ < Y.heap.size; omega)).trans HYG.out); have HRF := hideF hRf; have HAG8 := hideF hag8; have HB8 := hideF hb8; have HPL := hideF hpl; have HPC := hideF hpc; have hs8 := hb8.size; clear hRf hag8 hb8 hpl hpc hpr)
          | (go_at_call 31; refine (HBL2.out _).mono ?_; rintro e w9 ⟨v9, rfl, ho9, hb9⟩; obtain ⟨k0, k1, k2, k3, k4, k5, k6, k7, k8⟩ := cells9 (((bel_then HB8.out hb9).block w7.heap.size (show w7.heap.size < Y.drew.heap.size by show _ < Y.heap.size; omega)).trans HYG.out); obtain ⟨a9, p9, rfl, _⟩ := own_view ho9; have HO9 := hideF ho9; have HB9 := hideF hb9; clear ho9 hb9))
      go_wp2
      go_meet
      obtain ⟨Z, hZ⟩ : ∃ Z, Z = w9.alloc (Obj.cells #[.pointer (some ⟨d, 0, none⟩), .pointer (some ⟨p.r, 0, none⟩), .int .i64 10, .int .i64 10, .int .i64 10, .int .i64 10, .int .i64 5, .int .i64 5, .int .i64 1, .slice (some ⟨g7, 0, none⟩) 1 cap7, .int .i64 3, .slice a9 2 p9, .slice none 0 0, .int .i64 0] 52) := ⟨_, rfl⟩
      have hZb : Below w9.heap.size w9 Z := by rw [hZ]; exact bel_alloc (Below.refl _ _) _
      have hZg : Z.heap[w9.heap.size]? = some (Obj.cells #[.pointer (some ⟨d, 0, none⟩), .pointer (some ⟨p.r, 0, none⟩), .int .i64 10, .int .i64 10, .int .i64 10, .int .i64 10, .int .i64 5, .int .i64 5, .int .i64 1, .slice (some ⟨g7, 0, none⟩) 1 cap7, .int .i64 3, .slice a9 2 p9, .slice none 0 0, .int .i64 0] 52 (0, 0)) := by rw [hZ]; exact heap_alloc_new w9 _
      rw [<- hZ]
      clear hZ
      have hbk8 : BkC w8 B c8 kb (m + 5) b1 := HBK7.out.frame (k := 9) (Fc.of_below HB8.out) HAG8.out (by decide)
      have hb8Z := bel_then HB9.out hZb
      have hSB := rig_made (q1 := ⟨0, d, 0, 0, fun _ => 0, .slice none 0 0, p, .slice none 0 0, .slice none 0 0⟩) (f := fun _ => blank64) (nd := 2) (F := knF) (g := w9.heap.size) hbk8 HRF.out (by rw [HPL.out]; exact hg7B) knD_of hb8Z (by rw [hZg, <- HPL.out, <- HPC.out]; rfl) HB9.out.size (ownsRow_below HO9.out hZb)
      have hov8 := ownsRow_below HOV7.out HB8.out
      have hovZ := ownsRow_below hov8 hb8Z
      exact ⟨_, _, rfl, hSB, hovZ, nc_row (B := B) hovZ (Nat.le_refl _) (by decide) (by decide) (fun x hx => (colN_agr w8 c8 7 x (hov8.lt x hx).2).trans ((HAG8.out x (HOV7.out.lt x hx).2).trans (HCO7.out x hx))), HBLY.out.trans ((bel_then HB8.out hb8Z).mono HBK7.out.bk.lo.2)⟩
    case rest =>
      obtain ⟨q, c2, rfl, hSB, hov, hco, hbl⟩ := hcut
      have hchk := (Calm.ready (z := knF.z) (sec := 1) (nd := 2) (s := { dk := fun _ => blank64, wet := [], least := 0 }) ⟨fun _ _ => show blank64.size = 64 by decide, rfl, rfl, rfl, rfl⟩ (by decide) (by decide)).1
      have hchk' : Chk 2 [] A := by rw [HA.out]; exact hchk
      have HAC := hideF (acts_any wc B c2 q knD _ 2 A.length (.slice ao A.length ko) (.slice none 0 0) B 0 A [] hSB.rg ⟨by decide, by decide⟩ hov (World.ownsRow_nil _ _ _ _) (fun x hx => by rw [hco x hx]; decide) (fun x hx => by simp [Value.ownBlock] at hx) hchk' (by omega) (by simp) rfl (by decide) (by simp))
      have HSB := hideF hSB
      have HBL := hideF hbl
      clear hSB hov hco hbl hchk hchk' HRO HBL2 HBK7 HOV7 HCO7 HBLY HYG u0 u1 u2 u3 u4 u5 u6 u7' u8
      go_wp2_with fail
      refine HAC.out.mono ?_
      rintro e w3 ⟨rfl, v3, c3, hR3, hag3, hf3⟩
      have HBK3 := hideF (HSB.out.bk.frame hf3 hag3 (by decide)).nc
      have HBL3 := hideF (HBL.out.trans (hf3.toBelow HSB.out.nr (by decide) HSB.out.bk.bk.lo.2))
      clear hR3 hag3 hf3
      go_wp2
      go_ret2
      exact ⟨_, rfl, _, _, HBK3.out, nc_nrm _ _ _, HBL3.out⟩
end Go.Proofs.YtcpldcojckhapaaGreat
