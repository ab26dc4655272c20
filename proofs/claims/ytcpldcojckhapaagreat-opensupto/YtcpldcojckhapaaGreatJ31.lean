/-
  
-/
import Derived.Test.YtcpldcojckhapaaGreatJ30
import Derived.Test.YtcpldcojckhapaaGreatJ28
import Derived.Test.YtcpldcojckhapaaGreatW6
import Derived.Test.YtcpldcojckhapaaGreatJ27
set_option maxRecDepth 100000
namespace Go.Proofs.YtcpldcojckhapaaGreat
open Go.RowKit
open Classical in
noncomputable def nc (w : World) (B : Nat) (c : Nat -> Nat) : Nat -> Nat := fun g => if g < B then 0 else if ∃ cur, w.heap[g]? = some (.cells cur 163 (0, 0)) then 2 else if c g = 0 then 9 else c g
structure Nrm (w : World) (B : Nat) (c : Nat -> Nat) : Prop where
  zero : ∀ g, c g = 0 ↔ g < B
  wait : ∀ (g : Nat) (cur : Array Value), B <= g -> w.heap[g]? = some (.cells cur 163 (0, 0)) -> c g = 2
theorem nc_nrm (w : World) (B : Nat) (c : Nat -> Nat) : Nrm w B (nc w B c) := by
  refine ⟨fun g => ?_, fun g cur hb hg => ?_⟩
  . unfold nc
    split
    . simp [*]
    . split
      . simp [*]
      . split <;> simp [*]
  . unfold nc
    rw [if_neg (by omega), if_pos ⟨cur, hg⟩]
theorem nc_at {w : World} {B : Nat} {c : Nat -> Nat} {g : Nat} {cur : Array Value} {t : TypeId} {k : Nat} (hb : B <= g) (hg : w.heap[g]? = some (.cells cur t (0, 0))) (ht : t ≠ 163) (hc : c g = k) (hk : k ≠ 0) : nc w B c g = k := by
  unfold nc
  rw [if_neg (by omega), if_neg, if_neg (by omega), hc]
  rintro ⟨c2, h2⟩
  rw [hg] at h2
  simp only [Option.some.injEq, Obj.cells.injEq, and_true] at h2
  exact ht h2.2
theorem nc_row {w : World} {B C : Nat} {c : Nat -> Nat} {e : TypeId} {size n : Nat} {v : Value} {xs : List Value} (ho : w.ownsRow C e size v n xs) (hB : B <= C) (he : e ≠ 163) {k : Nat} (hk : k ≠ 0) (hc : ∀ g, v.ownBlock = some g -> c g = k) : ∀ g, v.ownBlock = some g -> nc w B c g = k := fun g hg => by
  obtain ⟨cur, hcur⟩ := own_block ho g hg
  exact nc_at (Nat.le_trans hB (ho.lt g hg).1) hcur he (hc g hg) hk
theorem RefIn.nc {w : World} {B : Nat} {c : Nat -> Nat} {p : Rfm} {D : Dev} {left : List (List Int)} {safe : Nat} {ys : Nat -> ByteArray} {zs : Nat -> Bool} (h : RefIn w B c p D left safe ys zs) (hl : B <= p.lb) : RefIn w B (nc w B c) p D left safe ys zs := by
  obtain ⟨cb, hcb⟩ := h.lnb
  obtain ⟨cy, hcy⟩ := h.ybs.block
  obtain ⟨cz, hcz⟩ := h.zbs.block
  refine ⟨h.dev, h.tab, h.inj, h.lnb, h.lns, h.ybs, h.zbs, h.wt, h.lf, fun j l hj => ?_, nc_at h.lo.1 h.dev (by decide) h.cr (by decide), fun i hi => ?_, nc_at h.lo.2.2.1 hcy (by decide) h.cy (by decide), nc_at h.lo.2.2.2.1 hcz (by decide) h.cz (by decide), nc_row h.wt (Nat.le_refl _) (by decide) (by decide) h.cw, nc_row h.lf (Nat.le_refl _) (by decide) (by decide) h.cl, nc_at hl hcb (by decide) h.cb (by decide), h.lo⟩
  . obtain ⟨v, h1, h2, h3⟩ := h.lfs j l hj
    exact ⟨v, h1, h2, nc_row h2 (Nat.le_refl _) (by decide) (by decide) h3⟩
  . obtain ⟨cg, hcg⟩ := (h.tab i hi).block
    exact nc_at (h.lo.2.1 i hi) hcg (by decide) (h.cG i hi) (by decide)
theorem Fc.of_ft {B0 d L S : Nat} {E : Nat -> Nat} {c : Nat -> Nat} {w w' : World} (h : FtT B0 (devT d L S E) w w') (hd : c d = 2) (hL : c L = 2) (hS : c S = 2) (hE : ∀ i, i < 4 -> c (E i) = 2) (h0 : ∀ g, g < w.heap.size -> c g = 0 -> g < B0) : Fc c 2 w w' := by
  refine ⟨h.os, h.tape, h.output, h.size, fun g cur t hg ht hc => h.keep g cur t hg ?_, fun g hg hz _ => h.low g (h0 g hg hz) hg⟩
  have e1 : g ≠ d := fun e => hc (by rw [e]; exact hd)
  have e2 : g ≠ L := fun e => hc (by rw [e]; exact hL)
  have e3 : g ≠ S := fun e => hc (by rw [e]; exact hS)
  have e4 : ∀ i, i < 4 -> g ≠ E i := fun i hi e => hc (by rw [e]; exact hE i hi)
  have e5 : t ≠ 163 := ht.elim id (fun r => absurd rfl r)
  simp [devT, e1, e2, e3, e4 0 (by omega), e4 1 (by omega), e4 2 (by omega), e4 3 (by omega), e5]
theorem ListsIn.trim {w : World} {B : Nat} {eO e : TypeId} {size : Nat} {mk : Nat -> List Value} {vO : Value} {N : Nat} {P : Nat -> Prop} (h : ListsIn w B eO e size mk vO N P) : ListsIn w B eO e size mk vO N (fun g => P g /\ ∃ cur, w.heap[g]? = some (.cells cur e (0, 0))) := by
  obtain ⟨Ls, h1, h2⟩ := h
  exact ⟨Ls, h1, fun i u hu => by obtain ⟨k, hk, hr, hq⟩ := h2 i u hu; exact ⟨k, hk, hr, fun g hg => ⟨hq g hg, hr.block g hg⟩⟩⟩
def Bks.trim (b : Bks) (w : World) : Bks := { b with pI := fun g => b.pI g /\ ∃ cur, w.heap[g]? = some (.cells cur 3 (0, 0)), pF := fun g => b.pF g /\ ∃ cur, w.heap[g]? = some (.cells cur 94 (0, 0)), pA := fun g => b.pA g /\ ∃ cur, w.heap[g]? = some (.cells cur 77 (0, 0)), pT := fun g => b.pT g /\ ∃ cur, w.heap[g]? = some (.cells cur 9 (0, 0)) }
theorem Bks.trim_on {b : Bks} {w : World} {kb g : Nat} (h : (b.trim w).on kb g) : b.on kb g := by
  unfold Bks.on Bks.ints at h ⊢
  rcases h with r | r | r | r | r | (r | r) | (r | r) | (r | r) | (r | r)
  . exact .inl r
  . exact .inr (.inl r)
  . exact .inr (.inr (.inl r))
  . exact .inr (.inr (.inr (.inl r)))
  . exact .inr (.inr (.inr (.inr (.inl r))))
  . exact .inr (.inr (.inr (.inr (.inr (.inl (.inl r.1))))))
  . exact .inr (.inr (.inr (.inr (.inr (.inl (.inr r))))))
  . exact .inr (.inr (.inr (.inr (.inr (.inr (.inl (.inl r.1)))))))
  . exact .inr (.inr (.inr (.inr (.inr (.inr (.inl (.inr r)))))))
  . exact .inr (.inr (.inr (.inr (.inr (.inr (.inr (.inl (.inl r.1))))))))
  . exact .inr (.inr (.inr (.inr (.inr (.inr (.inr (.inl (.inr r))))))))
  . exact .inr (.inr (.inr (.inr (.inr (.inr (.inr (.inr (.inl r.1))))))))
  . exact .inr (.inr (.inr (.inr (.inr (.inr (.inr (.inr (.inr r))))))))
theorem BookIn.trim {w : World} {B kb m : Nat} {b : Bks} (h : BookIn w B kb m b) : BookIn w B kb m (b.trim w) :=
  ⟨h.at', h.LI.trim, h.LF.trim, h.LA.trim, h.LT.trim, fun g hg => h.PI g hg.1, fun g hg => h.PF g hg.1, fun g hg => h.PA g hg.1, fun g hg => h.PT g hg.1, h.CI, h.WI, h.CF, h.WF, h.CA, h.WA, h.CT, h.WT, h.nI, h.nF, h.nA, h.nT, h.xI, h.xF, h.xA, h.xT, fun g hg => h.here g (Bks.trim_on hg), h.lo⟩
def Plain1 (w : World) (g : Nat) : Prop := ∃ (cur : Array Value) (t : TypeId), w.heap[g]? = some (.cells cur t (0, 0)) /\ t ≠ 163
theorem BookIn.plain {w : World} {B kb m : Nat} {b : Bks} (h : BookIn w B kb m b) {g : Nat} (hg : (b.trim w).on kb g) : Plain1 w g := by
  have key : ∀ {t : TypeId}, t ≠ 163 -> (∃ cur, w.heap[g]? = some (.cells cur t (0, 0))) -> Plain1 w g := fun ht ⟨cur, hc⟩ => ⟨cur, _, hc, ht⟩
  unfold Bks.on Bks.ints at hg
  rcases hg with r | r | r | r | r | (r | r | r) | (r | r | r) | (r | r | r) | (r | r | r)
  . subst r; exact key (by decide) ⟨_, h.at'⟩
  . exact key (by decide) (lists_block h.LI g r)
  . exact key (by decide) (lists_block h.LF g r)
  . exact key (by decide) (lists_block h.LA g r)
  . exact key (by decide) (lists_block h.LT g r)
  . exact key (by decide) r.2
  . exact key (by decide) (own_block h.CI g r)
  . exact key (by decide) (own_block h.WI g r)
  . exact key (by decide) r.2
  . exact key (by decide) (own_block h.CF g r)
  . exact key (by decide) (own_block h.WF g r)
  . exact key (by decide) r.2
  . exact key (by decide) (own_block h.CA g r)
  . exact key (by decide) (own_block h.WA g r)
  . exact key (by decide) r.2
  . exact key (by decide) (own_block h.CT g r)
  . exact key (by decide) (own_block h.WT g r)
theorem Fc.of_book {kb : Nat} {b b' : Bks} {v : Value} {c : Nat -> Nat} {w w' : World} (h : BookFt w w' kb b b' v) (hc : ∀ g, b.on kb g -> c g = 1) (hv : ∀ g, v.ownBlock = some g -> c g = 1) : Fc c 1 w w' :=
  ⟨h.os, h.tape, h.output, h.size, fun g _ _ hg _ hn => h.keep g (lt_of_block hg) (fun r => hn (hc g r)) (fun r => hn (hv g r)), fun g hg hz _ => h.keep g hg (fun r => by have := hc g r; omega) (fun r => by have := hv g r; omega)⟩
structure BkC (w : World) (B : Nat) (c : Nat -> Nat) (kb m : Nat) (b : Bks) : Prop where
  bk : BookIn w B kb m b
  col : ∀ g, b.on kb g -> c g = 1
  hi : ∀ g, b.on kb g -> B <= g
  ty : ∀ g, b.on kb g -> Plain1 w g
theorem BkC.frame {w w' : World} {B : Nat} {c c' : Nat -> Nat} {kb m : Nat} {b : Bks} {k : Nat} (h : BkC w B c kb m b) (hf : Fc c k w w') (ha : Agr w c c') (hk : k ≠ 1) : BkC w' B c' kb m b :=
  ⟨h.bk.frame hf.size (fun g cur t hg hon _ h6 => hf.keep g cur t hg (.inl h6) (by rw [h.col g hon]; omega)), fun g hg => (ha g (h.bk.here g hg)).trans (h.col g hg), h.hi, fun g hg => by
    obtain ⟨cur, t, h1, h2⟩ := h.ty g hg
    exact ⟨cur, t, (hf.keep g cur t h1 (.inl h2) (by rw [h.col g hg]; omega)).trans h1, h2⟩⟩
theorem BkC.nc {w : World} {B : Nat} {c : Nat -> Nat} {kb m : Nat} {b : Bks} (h : BkC w B c kb m b) : BkC w B (nc w B c) kb m b :=
  ⟨h.bk, fun g hg => by obtain ⟨cur, t, h1, h2⟩ := h.ty g hg; exact nc_at (h.hi g hg) h1 h2 (h.col g hg) (by decide), h.hi, h.ty⟩
theorem BkC.step {w w' : World} {B : Nat} {c : Nat -> Nat} {kb m m' : Nat} {b b' : Bks} {v : Value} (h : BkC w B c kb m b) (h' : BookIn w' B kb m' b') (hs : BookFt w w' kb b b' v) (hv : ∀ g, v.ownBlock = some g -> c g = 1 /\ B <= g /\ g < w.heap.size) : BkC w' B (colN w c 1) kb m' (b'.trim w') /\ Fc c 1 w w' := by
  refine ⟨⟨h'.trim, fun g hg => ?_, fun g hg => ?_, fun g hg => h'.plain hg⟩, Fc.of_book hs h.col (fun g hg => (hv g hg).1)⟩
  . rcases hs.on g (Bks.trim_on hg) with r | r | r
    . rw [colN_agr w c 1 g (h.bk.here g r)]; exact h.col g r
    . rw [colN_agr w c 1 g (hv g r).2.2]; exact (hv g r).1
    . exact colN_new w c 1 g r
  . rcases hs.on g (Bks.trim_on hg) with r | r | r
    . exact h.hi g r
    . exact (hv g r).2.1
    . exact Nat.le_trans h.bk.lo.2 r
structure Plc where
  (g d L S : Nat)
  E : Nat -> Nat
  wv : Value
  p : Rfm
  (dv wt : Value)
structure DevC (w : World) (B : Nat) (c : Nat -> Nat) (q : Plc) (D : Dev) : Prop where
  inn : DevIn w q.d q.L q.S q.E q.wv D
  cd : c q.d = 2
  cL : c q.L = 2
  cS : c q.S = 2
  cE : ∀ i, i < 4 -> c (q.E i) = 2
  lo : B <= D.base
theorem DevC.frame {w w' : World} {B : Nat} {c c' : Nat -> Nat} {q : Plc} {D : Dev} {k : Nat} (h : DevC w B c q D) (hn : Nrm w B c) (hf : Fc c k w w') (ha : Agr w c c') (hk : k ≠ 2) : DevC w' B c' q D := by
  have hi := h.inn
  refine ⟨⟨(hf.keep _ _ _ hi.dev (.inr hk) (by rw [h.cd]; omega)).trans hi.dev, hf.grid hi.lines (by decide) (by rw [h.cL]; omega), fun i h4 => hf.grid (hi.ent i h4) (by decide) (by rw [h.cE i h4]; omega), hi.inj, (hf.keep _ _ _ hi.store (.inr hk) (by rw [h.cS]; omega)).trans hi.store, own_same hi.wait fun g hg => ?_, hi.lo⟩, (ha _ (lt_of_block hi.dev)).trans h.cd, (ha _ hi.lines.lt).trans h.cL, (ha _ (lt_of_block hi.store)).trans h.cS, fun i h4 => (ha _ (hi.ent i h4).lt).trans (h.cE i h4), h.lo⟩
  obtain ⟨cur, hcur⟩ := own_block hi.wait g hg
  exact hf.keep g cur 163 hcur (.inr hk) (by rw [hn.wait g cur (Nat.le_trans h.lo (hi.wait.lt g hg).1) hcur]; omega)
theorem DevC.nc {w : World} {B : Nat} {c : Nat -> Nat} {q : Plc} {D : Dev} (h : DevC w B c q D) : DevC w B (nc w B c) q D := by
  have hi := h.inn
  have hl := h.lo
  obtain ⟨cl, hcl⟩ := hi.lines.block
  refine ⟨hi, nc_at (by have := hi.lo.1; omega) hi.dev (by decide) h.cd (by decide), nc_at (by have := hi.lo.2.1; omega) hcl (by decide) h.cL (by decide), nc_at (by have := hi.lo.2.2.1; omega) hi.store (by decide) h.cS (by decide), fun i h4 => ?_, hl⟩
  obtain ⟨cg, hcg⟩ := (hi.ent i h4).block
  exact nc_at (by have := hi.lo.2.2.2 i h4; omega) hcg (by decide) (h.cE i h4) (by decide)
def secV (f : Nat -> ByteArray) (nd : Nat) : List Value := ((List.range nd).map f).flatMap encT
def rigC (q : Plc) (D : Dev) (least : Nat) : Array Value :=
  #[.pointer (some ⟨q.d, 0, none⟩), .pointer (some ⟨q.p.r, 0, none⟩), .int .i64 (D.sz 0 : Nat), .int .i64 (D.sz 1 : Nat), .int .i64 (D.sz 2 : Nat), .int .i64 (D.sz 3 : Nat), .int .i64 (D.kp 0 : Nat), .int .i64 (D.kp 2 : Nat), .int .i64 (D.unit : Nat), .slice (some ⟨q.p.lb, 0, none⟩) D.nl q.p.cap, .int .i64 (D.batch : Nat), q.dv, q.wt, .int .i64 (least : Nat)]
structure RigIn (w : World) (B : Nat) (c : Nat -> Nat) (q : Plc) (D : Dev) (s : Ls) (nd : Nat) : Prop where
  rig : w.heap[q.g]? = some (.cells (rigC q D s.least) 52 (0, 0))
  dk : w.ownsRow B 9 1 q.dv nd (secV s.dk nd)
  wet : w.ownsRow B 77 4 q.wt s.wet.length (s.wet.flatMap encA)
  cg : c q.g = 7
  cd : ∀ g, q.dv.ownBlock = some g -> c g = 7
  cw : ∀ g, q.wt.ownBlock = some g -> c g = 7
  lo : B <= q.g
theorem RigIn.frame {w w' : World} {B : Nat} {c c' : Nat -> Nat} {q : Plc} {D : Dev} {s : Ls} {nd k : Nat} (h : RigIn w B c q D s nd) (hf : Fc c k w w') (ha : Agr w c c') (hk : k ≠ 7) : RigIn w' B c' q D s nd :=
  ⟨(hf.keep _ _ _ h.rig (.inl (by decide)) (by rw [h.cg]; omega)).trans h.rig, hf.own h.dk (by decide) (fun g hg => by rw [h.cd g hg]; omega), hf.own h.wet (by decide) (fun g hg => by rw [h.cw g hg]; omega), (ha _ (lt_of_block h.rig)).trans h.cg, fun g hg => (ha g (h.dk.lt g hg).2).trans (h.cd g hg), fun g hg => (ha g (h.wet.lt g hg).2).trans (h.cw g hg), h.lo⟩
theorem RigIn.nc {w : World} {B : Nat} {c : Nat -> Nat} {q : Plc} {D : Dev} {s : Ls} {nd : Nat} (h : RigIn w B c q D s nd) : RigIn w B (nc w B c) q D s nd :=
  ⟨h.rig, h.dk, h.wet, nc_at h.lo h.rig (by decide) h.cg (by decide), nc_row h.dk (Nat.le_refl _) (by decide) (by decide) h.cd, nc_row h.wet (Nat.le_refl _) (by decide) (by decide) h.cw, h.lo⟩
end Go.Proofs.YtcpldcojckhapaaGreat

set_option maxRecDepth 100000
namespace Go.Proofs.YtcpldcojckhapaaGreat
open Go.RowKit
set_option maxHeartbeats 1000000 in
theorem rlook_any (w : World) (B : Nat) (c : Nat -> Nat) (p : Rfm) (D : Dev) (left : List (List Int)) (safe : Nat) (ys : Nat -> ByteArray) (zs : Nat -> Bool) (t : Nat) (h : RefIn w B c p D left safe ys zs) (ht : t < 4) (hz : D.sz t <= 60) :
    Calls Tryz.prog 38 #[.pointer (some ⟨p.r, 0, none⟩), .int .i64 (t : Nat)] w fun e w' => ∃ v, e = .returned (.tuple #[v, .int .i64 0]) /\ w'.ownsRow w.heap.size 3 1 v (D.sz t) (((List.range (D.sz t)).map (D.ent t)).flatMap encI) /\ Below w.heap.size w w' := by
  obtain ⟨i0, hi, hz0, hz1, hz2⟩ := info_parts Tryz.infoEI
  have hc := h.cellT ht
  have HS := hideF (ent_src h (i := t) (n := D.sz t) ht (Nat.le_refl _))
  have HL := hideF (src_len (D.ent t) (D.sz t))
  have hlt : (t : Int) <= 3 := by omega
  clear h
  go_enter Tryz.func38, Tryz.ntmps38
  go_wp2_with (at_builtin; refine wpList_append_own _ rfl (.tmp 13) (.tmp 19) 28 rfl w.heap.size 3 i0 _ 1 8 Tryz.underlying28 hi hz0 hz1 hz2 rfl (by decide) (.slice none 0 0) 0 [] rfl (World.ownsRow_nil _ _ _ _) ⟨p.G t, 0, none⟩ (D.sz t) (D.sz t) _ rfl HL.out HS.out (encI_one _) (by unfold maxLen; omega) (by omega) (by simp) ?_; intro v' w6 hown6 hgrow6 _; obtain ⟨a6, k6, rfl, _⟩ := own_view hown6)
  rw [Nat.zero_add, List.nil_append] at hown6
  refine bodyPost_ret (v := .tuple #[.slice a6 (D.sz t) k6, .int .i64 0]) (by simp [results, Tryz.results38, go_sem]) rfl ⟨_, rfl, hown6, ?_⟩
  exact ⟨hgrow6.os, hgrow6.tape, hgrow6.output, hgrow6.size, fun k hk => hgrow6.block k hk (by simp [Value.ownBlock])⟩
set_option maxHeartbeats 1000000 in
theorem rflush_any (w : World) (B : Nat) (c : Nat -> Nat) (p : Rfm) (D : Dev) (left : List (List Int)) (safe : Nat) (ys : Nat -> ByteArray) (zs : Nat -> Bool) (h : RefIn w B c p D left safe ys zs) (hl1 : 1 <= left.length) (hl2 : left.length <= 1000000) :
    Calls Tryz.prog 35 #[.pointer (some ⟨p.r, 0, none⟩)] w fun e w' => e = .returned p.wv /\ w'.ownsRow B 113 3 p.wv D.wait.length (D.wait.flatMap encW) /\ RefIn w' B c { p with wv := .slice none 0 0 } { D with uns := 0, wait := [] } left (left.length - 1) ys zs /\ Fc c 3 w w' /\ w'.heap.size = w.heap.size := by
  obtain ⟨_, _, _, _, _, _, _, c15, c16, c17, c18, cf, hrl⟩ := h.cells
  obtain ⟨a1, k1, e1, _⟩ := own_view h.wt
  obtain ⟨a2, k2, e2, _⟩ := own_view h.lf
  rw [e1] at c15
  rw [e2] at c17
  have h2 := heap_setCell_same _ _ 18 _ _ (.int .i64 ((left.length - 1 : Nat) : Int)) (heap_setCell_same _ _ 16 _ _ (.int .i64 0) (heap_setCell_same w p.r 15 _ 48 (.slice none 0 0) h.dev))
  obtain ⟨V, hV⟩ : ∃ V, V = ((w.setCell ⟨p.r, 15, none⟩ (.slice none 0 0)).setCell ⟨p.r, 16, none⟩ (.int .i64 0)).setCell ⟨p.r, 18, none⟩ (.int .i64 ((left.length - 1 : Nat) : Int)) := ⟨_, rfl⟩
  rw [<- hV] at h2
  have hC : Chg1 p.r w V := by rw [hV]; exact (((Chg1.refl _ _).setCell _ _).setCell _ _).setCell _ _
  have hcr := h.cr
  have hF : Fc c 3 w V := (Fc.refl c 3 w).chg hC (.inr hcr)
  have hne : ∀ (v : Value) (e : TypeId) (size n : Nat) (xs : List Value), w.ownsRow B e size v n xs -> e ≠ 48 -> V.ownsRow B e size v n xs := fun v e size n xs ho he => own_same ho fun g hg => by
    obtain ⟨cg, hcg⟩ := own_block ho g hg
    exact hC.block g (lt_of_block hcg) (ne_types hcg h.dev he)
  have HR : Hid (RefIn V B c { p with wv := .slice none 0 0 } { D with uns := 0, wait := [] } left (left.length - 1) ys zs) := by
    refine h.turn (lv' := p.lv) (vs' := p.vs) hC (Agr.refl _ _) h2 rfl rfl rfl rfl (World.ownsRow_nil _ _ _ _) (hne _ _ _ _ _ h.lf (by decide)) (fun j l hj => ?_) (fun g hg => by simp [Value.ownBlock] at hg) h.cl
    obtain ⟨v, g1, g2, g3⟩ := h.lfs j l hj
    exact ⟨v, g1, hne _ _ _ _ _ g2 (by decide), g3⟩
  have HW := hideF (hne _ _ _ _ _ h.wt (by decide))
  have HF := hideF hF
  have HE := hideF e1
  have hVs : V.heap.size = w.heap.size := by rw [hV]; simp
  have e9 : IntKind.i64.wrap ((left.length : Int) - 1) = ((left.length - 1 : Nat) : Int) := by rw [IntKind.wrap_i64]; omega
  clear h h2 hC hF hne
  go_enter Tryz.func35, Tryz.ntmps35
  go_wp2
  rw [<- hV]
  refine bodyPost_ret (v := .slice a1 D.wait.length k1) (by simp [results, Tryz.results35, go_sem]) rfl ⟨by rw [<- HE.out], HW.out, HR.out, HF.out, hVs⟩
end Go.Proofs.YtcpldcojckhapaaGreat

set_option maxRecDepth 100000
namespace Go.Proofs.YtcpldcojckhapaaGreat
open Go.RowKit
theorem wordsB_snoc (l : List Nat) (n : Nat) : wordsB (l ++ [n]) = wordsB l ++ twoB n := by
  rw [twoB_words]
  unfold wordsB
  have : wordsI (l ++ [n]) = wordsI l ++ wordsI [n] := by unfold wordsI; rw [List.flatMap_append]
  rw [this]
  unfold bytesOf
  apply ByteArray.ext
  simp [ByteArray.data_append]
theorem packB_snoc (bs : Nat -> Nat) (m j : Nat) : Pl.packB bs m (j + 1) = Pl.packB bs m j ++ ⟨#[UInt8.ofNat (Pl.pkd bs m j)]⟩ := by
  unfold Pl.packB
  apply ByteArray.ext
  rw [ByteArray.data_append, List.range_succ, List.map_append]
  simp
def toldR (d : ByteArray) : ByteArray := ⟨#[UInt8.ofNat d.size]⟩ ++ d
set_option maxHeartbeats 4000000 in
theorem rtold_words (w : World) (B : Nat) (c : Nat -> Nat) (p : Rfm) (D : Dev) (left : List (List Int)) (safe : Nat) (ys : Nat -> ByteArray) (zs : Nat -> Bool) (x : Pl.Shp) (a : Option Addr) (n k : Nat) (h : RefIn w B c p D left safe ys zs) (ht : x.tab < 4) (ht1 : 1 < x.tab) (hx : x.frm + x.cnt <= D.sz x.tab) (hz : D.sz x.tab <= 60) (he : EntOk D.ent) :
    Calls Tryz.prog 135 #[.pointer (some ⟨p.r, 0, none⟩), shV x (.slice a n k)] w fun e w' => e = .returned (.string (toldR (readP D.ent x))) /\ Below w.heap.size w w' := by
  obtain ⟨W, hW⟩ : ∃ W, W = w.alloc (.cells #[.int .i64 (x.fn : Nat), .int .i64 (x.tab : Nat), .int .i64 (x.frm : Nat), .int .i64 (x.cnt : Nat), .int .i64 (x.into : Nat), .int .i64 (x.to : Nat), .int .i64 (x.many : Nat), .slice a n k] 144) := ⟨_, rfl⟩
  have hWb : Below w.heap.size w W := by rw [hW]; exact bel_alloc (Below.refl _ _) _
  have hWg : W.heap[w.heap.size]? = some (.cells #[.int .i64 (x.fn : Nat), .int .i64 (x.tab : Nat), .int .i64 (x.frm : Nat), .int .i64 (x.cnt : Nat), .int .i64 (x.into : Nat), .int .i64 (x.to : Nat), .int .i64 (x.many : Nat), .slice a n k] 144 (0, 0)) := by rw [hW]; exact heap_alloc_new w _
  have HR := hideF (h.below hWb)
  have hWs : W.heap.size = w.heap.size + 1 := by rw [hW]; simp
  have HE : Hid (readP D.ent x = wordsB ((List.range x.cnt).map fun j => (D.ent x.tab (x.frm + j)).toNat)) := by show _ = _; unfold readP; rw [if_neg (by omega)]
  have HOK := hideF he
  have HWg := hideF hWg
  have HWb := hideF hWb
  have hrl := lt_of_block h.dev
  have hGl := (h.tab x.tab ht).lt
  have hc8 := cells8 hWg
  have hfl : x.frm <= 60 := by omega
  have hcl : x.cnt <= 60 := by omega
  have ht1I : (1 : Int) < (x.tab : Int) := by omega
  have ht3 : (x.tab : Int) < 4 := by omega
  unfold shV
  clear h hWg hWb he
  go_enter Tryz.func135, Tryz.ntmps135
  obtain ⟨y0, y1, y2, y3, y4, y5, y6, y7, y8⟩ := hc8
  go_wp2_with fail
  rw [<- hW]
  clear hW
  go_wp2_with fail
  go_loopw [5, 6] (fun out i wr => ∃ q : Nat, q <= x.cnt /\ i = .int .i64 (q : Nat) /\ out = .string (wordsB ((List.range q).map fun j => (D.ent x.tab (x.frm + j)).toNat)) /\ Below W.heap.size W wr) (fun _ i _ => x.cnt - (intOf i).toNat)
  case atStart => exact ⟨0, Nat.zero_le _, rfl, rfl, Below.refl _ _⟩
  case round =>
    obtain ⟨q, hq, rfl, rfl, hb⟩ := hrel
    have hs := hb.size
    have hgq := (hb.block w.heap.size (by omega)).trans HWg.out
    clear y0 y1 y2 y3 y4 y5 y6 y7 y8
    obtain ⟨y0, y1, y2, y3, y4, y5, y6, y7, y8⟩ := cells8 hgq
    have HRq := hideF (HR.out.below hb)
    have hT := HRq.out.cellT ht
    have hsz : (wordsB ((List.range q).map fun j => (D.ent x.tab (x.frm + j)).toNat)).size = 2 * q := by rw [wordsB_size]; simp
    by_cases hlt : q < x.cnt
    . have hent := HRq.out.entT ht (k := x.frm + q) (by omega)
      have hok := HOK.out x.tab (x.frm + q)
      obtain ⟨m, hm⟩ : ∃ m : Nat, m = (D.ent x.tab (x.frm + q)).toNat := ⟨_, rfl⟩
      have hmI : D.ent x.tab (x.frm + q) = (m : Int) := by omega
      have hml : m < 65536 := by omega
      have hqI : (q : Int) < (x.cnt : Int) := by omega
      have hix : (x.frm : Int) + (q : Int) < (D.sz x.tab : Int) := by omega
      have hnx : ((x.frm : Int) + (q : Int)).toNat = x.frm + q := by omega
      have hwr : IntKind.i64.wrap ((x.frm : Int) + (q : Int)) = (x.frm : Int) + (q : Int) := by rw [IntKind.wrap_i64]; omega
      have hp0 : 0 <= (x.frm : Int) + (q : Int) := by omega
      rw [hmI] at hent
      obtain ⟨Q, hQ⟩ : ∃ Q, Q = wordsB ((List.range q).map fun j => (D.ent x.tab (x.frm + j)).toNat) := ⟨_, rfl⟩
      rw [<- hQ] at hsz ⊢
      have htw : (twoB m).size = 2 := rfl
      have hlim : ¬ 9223372036854775807 < 2 * q + 2 := by omega
      have HQN : Hid (wordsB ((List.range (q + 1)).map fun j => (D.ent x.tab (x.frm + j)).toNat) = Q ++ twoB m) := by
        show _ = _
        rw [List.range_succ, List.map_append, List.map_singleton, wordsB_snoc, hQ, hm]
      have HB := hideF hb
      clear hgq hb hok hmI hQ hm
      go_wp2_with fail
      go_region_law (refine step_call rfl 136 #[.tmp 33] #[3] rfl #[.int .i64 (m : Nat)] (by simp [Act.eval]) (enter136 _ _) _ (rtwo_step _ m rfl _ hml) ?_; rintro v w2 ⟨rfl, hb2⟩)
      all_goals
        have HB2 := hideF (bel_then HB.out (bel_then (below_drewN (Below.refl _ _) 1) hb2))
        clear hb2
        go_wp2
        go_roundw
        case rel => exact ⟨q + 1, by omega, by go_num, by rw [HQN.out], HB2.out⟩
        case measure => simp [intOf]; omega
    . obtain rfl : q = x.cnt := by omega
      have HB := hideF (bel_then HWb.out hb)
      obtain ⟨Q, hQ⟩ : ∃ Q, Q = wordsB ((List.range x.cnt).map fun j => (D.ent x.tab (x.frm + j)).toNat) := ⟨_, rfl⟩
      have HQ : Hid (readP D.ent x = Q) := by show _ = _; rw [HE.out, hQ]
      rw [<- hQ] at hsz ⊢
      have c1 := conv1
      have hQl : Q.size <= 200 := by omega
      clear hsz
      have hlim : ¬ 9223372036854775807 < (ByteArray.mk #[UInt8.ofNat Q.size]).size + Q.size := by show ¬ _ < 1 + _; omega
      clear hgq hb hQ
      go_wp2
      go_ret
      refine ⟨?_, ?_⟩
      . rw [HQ.out]; unfold toldR; rfl
      . exact bel_alloc HB.out _
set_option maxHeartbeats 4000000 in
theorem rtold_bits (w : World) (B : Nat) (c : Nat -> Nat) (p : Rfm) (D : Dev) (left : List (List Int)) (safe : Nat) (ys : Nat -> ByteArray) (zs : Nat -> Bool) (x : Pl.Shp) (a : Option Addr) (n k : Nat) (h : RefIn w B c p D left safe ys zs) (ht : x.tab < 2) (hx : x.frm + x.cnt <= D.sz x.tab) (hz : D.sz x.tab <= 60) (he : EntOk D.ent) :
    Calls Tryz.prog 135 #[.pointer (some ⟨p.r, 0, none⟩), shV x (.slice a n k)] w fun e w' => e = .returned (.string (toldR (readP D.ent x))) /\ Below w.heap.size w w' := by
  obtain ⟨W, hW⟩ : ∃ W, W = w.alloc (.cells #[.int .i64 (x.fn : Nat), .int .i64 (x.tab : Nat), .int .i64 (x.frm : Nat), .int .i64 (x.cnt : Nat), .int .i64 (x.into : Nat), .int .i64 (x.to : Nat), .int .i64 (x.many : Nat), .slice a n k] 144) := ⟨_, rfl⟩
  have hWb : Below w.heap.size w W := by rw [hW]; exact bel_alloc (Below.refl _ _) _
  have hWg : W.heap[w.heap.size]? = some (.cells #[.int .i64 (x.fn : Nat), .int .i64 (x.tab : Nat), .int .i64 (x.frm : Nat), .int .i64 (x.cnt : Nat), .int .i64 (x.into : Nat), .int .i64 (x.to : Nat), .int .i64 (x.many : Nat), .slice a n k] 144 (0, 0)) := by rw [hW]; exact heap_alloc_new w _
  have HR := hideF (h.below hWb)
  have hWs : W.heap.size = w.heap.size + 1 := by rw [hW]; simp
  obtain ⟨bs, hbs⟩ : ∃ bs : Nat -> Nat, bs = fun j => (D.ent x.tab (x.frm + j)).toNat := ⟨_, rfl⟩
  have hb2 : ∀ i, bs i < 2 := fun i => by rw [hbs]; have := he x.tab (x.frm + i); have h3 := this.2.2 ht; simp only; omega
  have HB2 := hideF hb2
  have HE : Hid (readP D.ent x = Pl.packB bs x.cnt ((x.cnt + 7) / 8)) := by show _ = _; unfold readP; rw [if_pos ht, hbs]
  have HBS : Hid (∀ j, j < x.cnt -> D.ent x.tab (x.frm + j) = ((bs j : Nat) : Int)) := fun j _ => by rw [hbs]; have := (he x.tab (x.frm + j)).1; simp only; omega
  have HWg := hideF hWg
  have HWb := hideF hWb
  have hrl := lt_of_block h.dev
  have hGl := (h.tab x.tab (by omega)).lt
  have hc8 := cells8 hWg
  have hfl : x.frm <= 60 := by omega
  have hcl : x.cnt <= 60 := by omega
  have ht1I : ¬ (1 : Int) < (x.tab : Int) := by omega
  have ht3 : (x.tab : Int) < 4 := by omega
  unfold shV
  clear h hWg hWb he hbs hb2
  go_enter Tryz.func135, Tryz.ntmps135
  obtain ⟨y0, y1, y2, y3, y4, y5, y6, y7, y8⟩ := hc8
  go_wp2_with fail
  rw [<- hW]
  clear hW
  go_wp2_with fail
  go_loopw [5, 7] (fun out i wr => ∃ j : Nat, j <= (x.cnt + 7) / 8 /\ i = .int .i64 ((8 * j : Nat) : Int) /\ out = .string (Pl.packB bs x.cnt j) /\ Below W.heap.size W wr) (fun _ i _ => 100 - (intOf i).toNat)
  case atStart => exact ⟨0, Nat.zero_le _, rfl, rfl, Below.refl _ _⟩
  case round =>
    obtain ⟨j, hj, rfl, rfl, hb⟩ := hrel
    have hs := hb.size
    have hgq := (hb.block w.heap.size (by omega)).trans HWg.out
    clear y0 y1 y2 y3 y4 y5 y6 y7 y8
    obtain ⟨y0, y1, y2, y3, y4, y5, y6, y7, y8⟩ := cells8 hgq
    have HRq := hideF (HR.out.below hb)
    have hT := HRq.out.cellT (i := x.tab) (by omega)
    have hsz : (Pl.packB bs x.cnt j).size = j := Pl.packB_size _ _ _
    have HSZ := hideF hsz
    by_cases hlt : 8 * j < x.cnt
    . have hqI : ((8 * j : Nat) : Int) < (x.cnt : Int) := by omega
      obtain ⟨Q, hQ⟩ : ∃ Q, Q = Pl.packB bs x.cnt j := ⟨_, rfl⟩
      rw [<- hQ] at hsz ⊢
      have HQ := hideF hQ
      have HB := hideF hb
      obtain ⟨i, hi⟩ : ∃ i, i = 8 * j := ⟨_, rfl⟩
      have hix : i < x.cnt := by omega
      rw [<- hi] at hqI ⊢
      have HI := hideF hi
      clear hgq hb hQ hsz hi hlt
      go_wp2_with fail
      go_loopw [8, 9, 10] (fun xx un kk wr2 => ∃ (q nd : Nat), i <= q /\ q <= i + 8 /\ q <= x.cnt /\ kk = .int .i64 (q : Nat) /\ un = .int .i64 ((2 ^ (q - i) : Nat) : Int) /\ xx = .int .i64 ((Pl.pkd bs q j : Nat) : Int) /\ wr2 = wr.drewN nd) (fun _ _ kk _ => 100 - (intOf kk).toNat)
      case atStart => exact ⟨i, 0, by omega, by omega, by omega, rfl, by simp, by rw [Pl.pkd_before bs i j (by have := HI.out; omega)]; rfl, rfl⟩
      case round =>
        obtain ⟨q, nd, h1, h2, h3, rfl, rfl, rfl, rfl⟩ := hrel
        by_cases hq : q < i + 8 /\ q < x.cnt
        . have q1 : (q : Int) < (i : Int) + 8 := by omega
          have q2 : (q : Int) < (x.cnt : Int) := by omega
          have hent := HRq.out.entT (i := x.tab) (by omega) (k := x.frm + q) (by omega)
          rw [HBS.out q hq.2] at hent
          have hix : (x.frm : Int) + (q : Int) < (D.sz x.tab : Int) := by omega
          have hnx : ((x.frm : Int) + (q : Int)).toNat = x.frm + q := by omega
          have hwr : IntKind.i64.wrap ((x.frm : Int) + (q : Int)) = (x.frm : Int) + (q : Int) := by rw [IntKind.wrap_i64]; omega
          have hp0 : 0 <= (x.frm : Int) + (q : Int) := by omega
          have hbq := HB2.out q
          have hpk := Pl.pkd_byte bs HB2.out q j
          have hpw : 2 ^ (q - i) <= 2 ^ 8 := Nat.pow_le_pow_right (by omega) (by omega)
          have HS1 : Hid (Pl.pkd bs (q + 1) j = Pl.pkd bs q j + bs q * 2 ^ (q - i)) := by show _ = _; rw [Pl.pkd, if_pos (by have := HI.out; omega), show q % 8 = q - i by have := HI.out; omega]
          have HS2 : Hid (2 ^ (q + 1 - i) = 2 * 2 ^ (q - i)) := by show _ = _; rw [show q + 1 - i = (q - i) + 1 by omega, Nat.pow_succ]; omega
          obtain ⟨P, hP⟩ : ∃ P, P = 2 ^ (q - i) := ⟨_, rfl⟩
          obtain ⟨K, hK⟩ : ∃ K, K = Pl.pkd bs q j := ⟨_, rfl⟩
          obtain ⟨b, hbb⟩ : ∃ b, b = bs q := ⟨_, rfl⟩
          rw [<- hP, <- hK, <- hbb] at HS1
          rw [<- hP] at HS2 hpw
          rw [<- hK] at hpk
          rw [<- hbb] at hent hbq
          rw [<- hP, <- hK]
          clear hP hK hbb
          rcases (show b = 0 ∨ b = 1 by omega) with rfl | rfl
          all_goals
            go_wp2_with fail
            go_quiet (fail)
            go_wp2
            go_roundw
            case rel => exact ⟨q + 1, nd + nq, by omega, by omega, by omega, by go_num, by rw [HS2.out]; go_num, by rw [HS1.out]; go_num, by simp⟩
            case measure => simp [intOf]; omega
        . have hK : Pl.pkd bs q j = Pl.pkd bs x.cnt j := by
            rcases Nat.lt_or_ge q x.cnt with hh | hh
            . have : q = 8 * j + 8 := by have := HI.out; omega
              rw [this, Pl.pkd_after bs j x.cnt (by omega)]
            . rw [show q = x.cnt by omega]
          have hpk := Pl.pkd_byte bs HB2.out x.cnt j
          rw [hK]
          obtain ⟨K, hKe⟩ : ∃ K, K = Pl.pkd bs x.cnt j := ⟨_, rfl⟩
          rw [<- hKe] at hpk ⊢
          have HK := hideF hKe
          clear hK hKe
          have c1 : ∀ x : Int, (convert 114 9 (.slice (some ⟨wr.heap.size, 0, none⟩) 1 1)).run Tryz.prog ((wr.drewN nd).alloc (.cells #[.int .u8 x] 5)) = .ok (.string ⟨#[UInt8.ofNat x.toNat]⟩) ((wr.drewN nd).alloc (.cells #[.int .u8 x] 5)) := fun x => conv1 (wr.drewN nd) x
          have hQl : Q.size <= 200 := by rw [HQ.out, HSZ.out]; omega
          have hlim : ¬ 9223372036854775807 < Q.size + (ByteArray.mk #[UInt8.ofNat K]).size := by show ¬ _ < _ + 1; omega
          have HN : Hid (Pl.packB bs x.cnt (j + 1) = Q ++ ⟨#[UInt8.ofNat K]⟩) := by show _ = _; rw [packB_snoc, HQ.out, HK.out]
          have HBN := hideF (bel_then HB.out (below_drewN (Below.refl _ wr) nd))
          by_cases hq1 : q < i + 8
          . have q1 : (q : Int) < (i : Int) + 8 := by omega
            have q2 : ¬ (q : Int) < (x.cnt : Int) := by omega
            go_wp2
            go_roundw
            case rel => exact ⟨j + 1, by have := HI.out; omega, by have := HI.out; go_num, by rw [HN.out], bel_alloc HBN.out _⟩
            case measure => simp [intOf]; omega
          . have q1 : ¬ (q : Int) < (i : Int) + 8 := by omega
            go_wp2
            go_roundw
            case rel => exact ⟨j + 1, by have := HI.out; omega, by have := HI.out; go_num, by rw [HN.out], bel_alloc HBN.out _⟩
            case measure => simp [intOf]; omega
    . obtain rfl : j = (x.cnt + 7) / 8 := by omega
      have HB := hideF (bel_then HWb.out hb)
      have hqI : ¬ ((8 * ((x.cnt + 7) / 8) : Nat) : Int) < (x.cnt : Int) := by omega
      obtain ⟨i, hi⟩ : ∃ i, i = 8 * ((x.cnt + 7) / 8) := ⟨_, rfl⟩
      obtain ⟨Q, hQ⟩ : ∃ Q, Q = Pl.packB bs x.cnt ((x.cnt + 7) / 8) := ⟨_, rfl⟩
      have HQ : Hid (readP D.ent x = Q) := by show _ = _; rw [HE.out, hQ]
      rw [<- hi] at hqI ⊢
      clear hi
      rw [<- hQ] at hsz ⊢
      have c1 := conv1
      have hQl : Q.size <= 200 := by omega
      have hlim : ¬ 9223372036854775807 < (ByteArray.mk #[UInt8.ofNat Q.size]).size + Q.size := by show ¬ _ < 1 + _; omega
      clear hgq hb hQ hsz HSZ
      go_wp2
      go_ret
      refine ⟨?_, ?_⟩
      . rw [HQ.out]; unfold toldR; rfl
      . exact bel_alloc HB.out _
end Go.Proofs.YtcpldcojckhapaaGreat

set_option maxRecDepth 100000
namespace Go.Proofs.YtcpldcojckhapaaGreat
open Go.RowKit
structure RefSt (w W : World) (cs : Array Value) : Prop where
  b0 : W.heap[w.heap.size]? = some (.cells #[.int .i64 0, .int .i64 0, .int .i64 0, .int .i64 0, .int .i64 0, .int .i64 0, .int .i64 0, .slice none 0 0] 144 (0, 0))
  b1 : W.heap[w.heap.size + 1]? = some (.cells #[.int .i64 0, .int .i64 0, .int .i64 0, .int .i64 0, .int .i64 0, .int .i64 0, .int .i64 0, .slice none 0 0] 144 (0, 0))
  b2 : W.heap[w.heap.size + 1 + 1]? = some (.cells cs 144 (0, 0))
  hs : w.heap.size + 3 <= W.heap.size
  hb : Below w.heap.size w W
theorem RefSt.start (w : World) (a0 a1 a2 a3 a4 a5 a6 a7 : Value) : RefSt w (((w.alloc (.cells #[.int .i64 0, .int .i64 0, .int .i64 0, .int .i64 0, .int .i64 0, .int .i64 0, .int .i64 0, .slice none 0 0] 144)).alloc (.cells #[.int .i64 0, .int .i64 0, .int .i64 0, .int .i64 0, .int .i64 0, .int .i64 0, .int .i64 0, .slice none 0 0] 144)).alloc (.cells #[a0, a1, a2, a3, a4, a5, a6, a7] 144)) #[a0, a1, a2, a3, a4, a5, a6, a7] := by
  obtain ⟨X, hX, x0, x1, xs, xb⟩ := two_facts (w := w)
  rw [<- hX]
  refine ⟨?_, ?_, ?_, by simp; omega, bel_alloc xb _⟩
  . rw [heap_alloc_old X _ (by omega)]; exact x0
  . rw [heap_alloc_old X _ (by omega)]; exact x1
  . have := heap_alloc_new X (.cells #[a0, a1, a2, a3, a4, a5, a6, a7] 144)
    rwa [xs] at this
theorem RefSt.set {w W : World} {cs : Array Value} (h : RefSt w W cs) (i : Nat) (a : Value) : RefSt w (W.setCell ⟨w.heap.size + 1 + 1, i, none⟩ a) (cs.setIfInBounds i a) :=
  ⟨(heap_setCell_other W _ _ _ (by simp; omega)).trans h.b0, (heap_setCell_other W _ _ _ (by simp)).trans h.b1, heap_setCell_same W _ i cs 144 a h.b2, by simpa using h.hs, h.hb.setCell (p := ⟨w.heap.size + 1 + 1, i, none⟩) (by simp; omega) _⟩
theorem RefSt.drew {w W : World} {cs : Array Value} (h : RefSt w W cs) (n : Nat) : RefSt w (W.drewN n) cs := ⟨h.b0, h.b1, h.b2, h.hs, below_drewN h.hb n⟩
theorem RefSt.then {w W W' : World} {cs : Array Value} (h : RefSt w W cs) (hb : Below W.heap.size W W') : RefSt w W' cs :=
  ⟨(hb.block _ (by have := h.hs; omega)).trans h.b0, (hb.block _ (by have := h.hs; omega)).trans h.b1, (hb.block _ (by have := h.hs; omega)).trans h.b2, Nat.le_trans h.hs hb.size, bel_then h.hb hb⟩
theorem RefSt.alloc {w W : World} {cs : Array Value} (h : RefSt w W cs) (o : Obj) : RefSt w (W.alloc o) cs := h.then (bel_alloc (Below.refl _ _) _)
theorem new_ints' (W : World) (x : Int) (B g : Nat) (hg : g = W.heap.size) (hB : B <= W.heap.size) : (W.alloc (.cells #[.int .i64 x] 3)).ownsRow B 3 1 (.slice (some ⟨g, 0, none⟩) 1 1) 1 ([x].flatMap encI) := by
  subst hg; exact new_ints W x B hB
set_option maxRecDepth 100000 in
set_option maxHeartbeats 4000000 in
theorem rshape_bad (s : ByteArray) (w : World) (h : s.size = 0 ∨ 253 < s.size) :
    Calls Tryz.prog 132 #[.string s] w fun e w' => ShapeIs w w' e s := by
  by_cases h0 : s.size < 1
  . go_enter Tryz.func132, Tryz.ntmps132
    go_wp2
    refine bodyPost_ret (v := .tuple #[.agg #[.int .i64 0, .int .i64 0, .int .i64 0, .int .i64 0, .int .i64 0, .int .i64 0, .int .i64 0, .slice none 0 0], .int .u8 3]) (by simp [results, Tryz.results132, go_sem]) rfl
      ⟨Pl.noShp, .slice none 0 0, 3, rfl, World.ownsRow_nil _ _ _ _, .inl ⟨h, rfl, rfl⟩, by simp [Pl.noShp], bel_alloc (bel_alloc (Below.refl _ _) _) _⟩
  . have h2 : 253 < s.size := by omega
    go_enter Tryz.func132, Tryz.ntmps132
    go_wp2
    refine bodyPost_ret (v := .tuple #[.agg #[.int .i64 0, .int .i64 0, .int .i64 0, .int .i64 0, .int .i64 0, .int .i64 0, .int .i64 0, .slice none 0 0], .int .u8 3]) (by simp [results, Tryz.results132, go_sem]) rfl
      ⟨Pl.noShp, .slice none 0 0, 3, rfl, World.ownsRow_nil _ _ _ _, .inl ⟨h, rfl, rfl⟩, by simp [Pl.noShp], bel_alloc (bel_alloc (Below.refl _ _) _) _⟩
set_option maxRecDepth 100000 in
set_option maxHeartbeats 4000000 in
theorem rshape_none (s : ByteArray) (w : World) (h0 : 0 < s.size) (h1 : s.size <= 253) (hf : Pl.byt s 0 ≠ 1 /\ Pl.byt s 0 ≠ 2 /\ Pl.byt s 0 ≠ 3 /\ Pl.byt s 0 ≠ 4 /\ Pl.byt s 0 ≠ 5 /\ Pl.byt s 0 ≠ 6 /\ Pl.byt s 0 ≠ 15 /\ Pl.byt s 0 ≠ 16 /\ Pl.byt s 0 ≠ 22 /\ Pl.byt s 0 ≠ 23) :
    Calls Tryz.prog 132 #[.string s] w fun e w' => ShapeIs w w' e s := by
  have gb := Pl.get_byt s
  have HF := hideF hf
  have hb0 := Pl.byt_lt s 0
  have u1 : ((Pl.byt s 0 : Int) == 1) = false := by rw [beq_eq_false_iff_ne]; omega
  have u2 : ((Pl.byt s 0 : Int) == 2) = false := by rw [beq_eq_false_iff_ne]; omega
  have u3 : ((Pl.byt s 0 : Int) == 3) = false := by rw [beq_eq_false_iff_ne]; omega
  have u4 : ((Pl.byt s 0 : Int) == 4) = false := by rw [beq_eq_false_iff_ne]; omega
  have u5 : ((Pl.byt s 0 : Int) == 5) = false := by rw [beq_eq_false_iff_ne]; omega
  have u6 : ((Pl.byt s 0 : Int) == 6) = false := by rw [beq_eq_false_iff_ne]; omega
  have u15 : ((Pl.byt s 0 : Int) == 15) = false := by rw [beq_eq_false_iff_ne]; omega
  have u16 : ((Pl.byt s 0 : Int) == 16) = false := by rw [beq_eq_false_iff_ne]; omega
  have u22 : ((Pl.byt s 0 : Int) == 22) = false := by rw [beq_eq_false_iff_ne]; omega
  have u23 : ((Pl.byt s 0 : Int) == 23) = false := by rw [beq_eq_false_iff_ne]; omega
  clear hf
  go_enter Tryz.func132, Tryz.ntmps132
  go_wp2
  refine bodyPost_ret (v := .tuple #[.agg #[.int .i64 0, .int .i64 0, .int .i64 0, .int .i64 0, .int .i64 0, .int .i64 0, .int .i64 0, .slice none 0 0], .int .u8 1]) (by simp [results, Tryz.results132, go_sem]) rfl
    ⟨Pl.noShp, .slice none 0 0, 1, rfl, World.ownsRow_nil _ _ _ _, Pl.shpIsNone h0 h1 HF.out ⟨rfl, rfl⟩, by simp [Pl.noShp], (bel_alloc (bel_alloc (bel_alloc (Below.refl _ _) _) _) _)⟩
end Go.Proofs.YtcpldcojckhapaaGreat
