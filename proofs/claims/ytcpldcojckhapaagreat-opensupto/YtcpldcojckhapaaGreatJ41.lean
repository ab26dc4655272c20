/-
  
-/
import Derived.Test.YtcpldcojckhapaaGreatJ39
import Derived.Test.YtcpldcojckhapaaGreatJ40
import Derived.Test.YtcpldcojckhapaaGreatPf
set_option maxRecDepth 100000
namespace Go.Proofs.YtcpldcojckhapaaGreat
open Go.RowKit
structure Kept1 (w w' : World) (kb : Nat) (b b' : Bks) : Prop where
  os : w'.os = w.os
  tape : w'.tape = w.tape
  output : w'.output = w.output
  size : w.heap.size <= w'.heap.size
  keep : ∀ g, g < w.heap.size -> ¬ b.on kb g -> w'.heap[g]? = w.heap[g]?
  on : ∀ g, b'.on kb g -> b.on kb g ∨ w.heap.size <= g
theorem Kept1.refl (w : World) (kb : Nat) (b : Bks) : Kept1 w w kb b b := ⟨rfl, rfl, rfl, Nat.le_refl _, fun _ _ _ => rfl, fun _ h => .inl h⟩
theorem Kept1.below {w w1 w2 : World} {kb : Nat} {b b1 : Bks} (h : Kept1 w w1 kb b b1) (h1 : Below w1.heap.size w1 w2) : Kept1 w w2 kb b b1 :=
  ⟨h1.os.trans h.os, h1.tape.trans h.tape, h1.output.trans h.output, Nat.le_trans h.size h1.size, fun g hg hn => (h1.block g (Nat.lt_of_lt_of_le hg h.size)).trans (h.keep g hg hn), h.on⟩
theorem Kept1.grown {w w1 w2 : World} {kb : Nat} {b b1 : Bks} {row : Option Nat} (h : Kept1 w w1 kb b b1) (h1 : w1.grownBy w2 row) (hr : ∀ g, row = some g -> w.heap.size <= g) : Kept1 w w2 kb b b1 :=
  ⟨h1.os.trans h.os, h1.tape.trans h.tape, h1.output.trans h.output, Nat.le_trans h.size h1.size, fun g hg hn => (h1.block g (Nat.lt_of_lt_of_le hg h.size) (fun e => by have := hr g e.symm; omega)).trans (h.keep g hg hn), h.on⟩
theorem Kept1.book {w w1 w2 : World} {kb : Nat} {b b1 b2 : Bks} {v : Value} (h : Kept1 w w1 kb b b1) (h1 : BookFt w1 w2 kb b1 b2 v) (hv : ∀ g, v.ownBlock = some g -> w.heap.size <= g) : Kept1 w w2 kb b b2 := by
  refine ⟨h1.os.trans h.os, h1.tape.trans h.tape, h1.output.trans h.output, Nat.le_trans h.size h1.size, fun g hg hn => (h1.keep g (Nat.lt_of_lt_of_le hg h.size) (fun r => ?_) (fun r => by have := hv g r; omega)).trans (h.keep g hg hn), fun g hg => ?_⟩
  . rcases h.on g r with r | r
    . exact hn r
    . omega
  . rcases h1.on g hg with r | r | r
    . exact h.on g r
    . exact .inr (hv g r)
    . exact .inr (Nat.le_trans h.size r)
theorem secV_one (f : Nat -> ByteArray) (n : Nat) : ∀ u ∈ secV f n, u.oneCell' = true := by
  intro u hu
  unfold secV at hu
  obtain ⟨x, _, hx⟩ := List.mem_flatMap.1 hu
  simp only [encT, List.mem_singleton] at hx
  subst hx; rfl
theorem own_some {w : World} {B : Nat} {e : TypeId} {size : Nat} {v : Value} {n : Nat} {xs : List Value} (h : w.ownsRow B e size v n xs) (hn : 0 < n) : ∃ g cap, v = .slice (some ⟨g, 0, none⟩) n cap /\ n <= cap /\ g < w.heap.size /\ B <= g := by
  rcases h.2 with ⟨_, e⟩ | ⟨g, cap, cur, e1, hb, hg, h1, _⟩
  . omega
  . exact ⟨g, cap, e1, h1, lt_of_block hg, hb⟩
def ValT (w : World) (a2 : Option Addr) (nd : Nat) (f : Nat -> ByteArray) : Prop := ∀ j, j < nd -> ∃ g o, a2 = some ⟨g, o, none⟩ /\ g < w.heap.size /\ w.cell? ⟨g, o + j, none⟩ = some (.string (f j))
theorem up_step {wc w1 w2 : World} {kb : Nat} {b1 b2 : Bks} {v : Value} {S : Nat -> Prop} (h : ∀ x, S x -> x < wc.heap.size /\ w1.heap[x]? = wc.heap[x]? /\ ¬ b1.on kb x) (hs : wc.heap.size <= w1.heap.size) (h1 : BookFt w1 w2 kb b1 b2 v) (hv : ∀ x, S x -> v.ownBlock ≠ some x) : ∀ x, S x -> x < wc.heap.size /\ w2.heap[x]? = wc.heap[x]? /\ ¬ b2.on kb x := fun x hx => by
  obtain ⟨g1, g2, g3⟩ := h x hx
  refine ⟨g1, (h1.keep x (by omega) g3 (hv x hx)).trans g2, fun hb => ?_⟩
  rcases h1.on x hb with r | r | r
  . exact g3 r
  . exact hv x hx r
  . omega
theorem results_tmp4 {fn : Func} {t u v x : Tmp} (h : fn.results = #[.tmp t, .tmp u, .tmp v, .tmp x]) (tmps : Array Value) (P : Program) (w : World) :
    (results fn tmps).run P w = .ok (.tuple #[tmps.getD t undef, tmps.getD u undef, tmps.getD v undef, tmps.getD x undef]) w := by
  simp [results, h]
def spare : ByteArray := ⟨#[115, 112, 97, 114, 101]⟩
theorem enterOpen (x y : Value) (w : World) : (callFunc 25 #[x, y]).run Tryz.prog w = .ok (.enter 25 #[x, y]) w := by kernel_rfl
set_option maxHeartbeats 8000000 in
theorem opens_any (w : World) (B kb m : Nat) (b0 : Bks) (s0 s1 s2 s3 c h u b : Int) (n k nd k2 : Nat) (ad a2 : Option Addr) (ln : Nat -> Int) (f : Nat -> ByteArray) (err : Int) (A : List (Int × Int × Int × ByteArray)) (P : Nat -> Value -> World -> Prop)
    (hbk : BookIn w B kb m b0) (hm : m <= 900000) (hv : Vals w ad n ln) (hsrc : Src w (.slice ad n k) n (((List.range n).map ln).flatMap encI)) (hn : n <= 1800000) (hlt : ∀ a, ad = some a -> a.block < w.heap.size /\ ¬ b0.on kb a.block)
    (hd : Src w (.slice a2 nd k2) nd (secV f nd)) (hdt : ValT w a2 nd f) (hnd : nd <= 1800000) (hlt2 : ∀ a, a2 = some a -> a.block < w.heap.size /\ ¬ b0.on kb a.block) (hA : A.length <= 1800000)
    (hOpen : ∀ (w1 : World) (g2 k3 g cap : Nat), Below w.heap.size w w1 -> g2 < w1.heap.size -> SecIn w1 g2 nd f -> g < w1.heap.size -> (∀ j, j < n -> w1.cell? ⟨g, j, none⟩ = some (.int .i64 (ln j))) -> nd <= k3 -> Calls Tryz.prog 25 #[.agg #[.int .i64 s0, .int .i64 s1, .int .i64 s2, .int .i64 s3, .int .i64 c, .int .i64 h, .int .i64 u, .slice (some ⟨g, 0, none⟩) n cap, .int .i64 b], .slice (some ⟨g2, 0, none⟩) nd k3] w1 fun e w' => ∃ v, e = .returned v /\ ∃ dv va, v = .tuple #[dv, va, .int .i64 err] /\ w'.ownsRow w1.heap.size 77 4 va A.length (A.flatMap encA) /\ Below w1.heap.size w1 w' /\ P w1.heap.size dv w') :
    Calls Tryz.prog 13 #[.agg #[.int .i64 s0, .int .i64 s1, .int .i64 s2, .int .i64 s3, .int .i64 c, .int .i64 h, .int .i64 u, .slice ad n k, .int .i64 b], .slice a2 nd k2, .pointer (some ⟨kb, 0, none⟩)] w fun e w' => ∃ dv ov b' N wO, e = .returned (.tuple #[dv, ov, .int .i64 err, .bool true]) /\ BookIn w' B kb (m + 5) b' /\ Kept1 w w' kb b0 b' /\ w'.ownsRow w.heap.size 77 4 ov A.length (A.flatMap encA) /\ (∀ g, ov.ownBlock = some g -> ¬ b'.on kb g /\ wO.heap.size <= g) /\
      w.heap.size <= N /\ P N dv wO /\ (∀ (g : Nat) (cur : Array Value) (t : TypeId), N <= g -> wO.heap[g]? = some (.cells cur t (0, 0)) -> t ≠ 77 -> w'.heap[g]? = wO.heap[g]? /\ ¬ b'.on kb g) /\ wO.heap.size <= w'.heap.size := by
  obtain ⟨i0, hi0, hz0, hz1, hz2⟩ := info_parts Tryz.infoET
  obtain ⟨i1, ji, jz0, jz1, jz2⟩ := info_parts Tryz.infoEA
  obtain ⟨W, hW, hWs, hWb, hWg⟩ := cfg_newI w s0 s1 s2 s3 c h u b (.slice ad n k)
  have HWB := hideF hWb
  have HWG := hideF hWg
  have HBK := hideF hbk
  have HV := hideF hv
  have HSRC := hideF hsrc
  have HLT := hideF hlt
  have HD := hideF hd
  have HDT := hideF hdt
  have HLT2 := hideF hlt2
  have HOP := hideF hOpen
  have HDW : Hid (Src W (.slice a2 nd k2) nd (secV f nd)) := hd.bel (fun a c e => by cases e; exact (hlt2 a rfl).1) hWb
  have hold : Hid (∀ g, b0.on kb g -> g < w.heap.size) := hbk.here
  clear hWb hWg hbk hv hsrc hlt hd hlt2 hOpen hdt
  go_enter Tryz.func13, Tryz.ntmps13
  go_upto_region 1 with fail
  rw [<- hW]
  clear hW
  go_upto_region 3 with (at_builtin; go_must (refine wpList_append_srck rfl (.tmp 18) (.tmp 19) 30 rfl W.heap.size 9 i0 _ 1 16 Tryz.underlying30 hi0 hz0 hz1 hz2 rfl (by decide) (.slice none 0 0) 0 [] rfl (World.ownsRow_nil _ _ _ _) _ nd (secV f nd) rfl HDW.out (by rw [secV_len]; omega) (secV_one _ _) (by unfold maxLen; omega) (by omega) (Nat.le_refl _) ?_; intro v2 w2 hown2 hgrow2 _))
  rw [Nat.zero_add, List.nil_append] at hown2
  have hb2 : Below W.heap.size W w2 := (Below.refl _ _).grown hgrow2 (Nat.le_refl _) (fun k hk => by simp [Value.ownBlock] at hk)
  have HB2 := hideF (bel_then HWB.out hb2)
  have hs2 := hb2.size
  have HO2 := hideF hown2
  have HG2 := hideF ((hb2.block _ (by omega)).trans HWG.out)
  clear hown2 hgrow2 hb2
  go_upto_region 4 with (at_builtin; go_must (refine wpList_append_own _ rfl (.tmp 21) (.tmp 22) 30 rfl W.heap.size 9 i0 _ 1 16 Tryz.underlying30 hi0 hz0 hz1 hz2 rfl (by decide) v2 nd (secV f nd) rfl (HO2.out.alloc _) ⟨w2.heap.size, 0, none⟩ 1 1 [.string spare] rfl rfl (alloc_news w2 [.string spare] 9) (by simp [Value.oneCell']) (by unfold maxLen; omega) (by omega) (by simp; omega) ?_; intro v3 w3 hown3 hgrow3 _))
  have hb3 : Below w.heap.size w w3 := (bel_alloc HB2.out (.cells #[.string spare] 9)).grown hgrow3 (by simp; omega) (fun k hk => by have := (HO2.out.lt k hk).1; omega)
  have hg3 : w3.heap[w.heap.size]? = some (.cells #[.int .i64 s0, .int .i64 s1, .int .i64 s2, .int .i64 s3, .int .i64 c, .int .i64 h, .int .i64 u, .slice ad n k, .int .i64 b] 39 (0, 0)) := (hgrow3.block _ (by simp; omega) (fun e => by have := (HO2.out.lt _ e.symm).1; omega)).trans ((heap_alloc_old w2 _ (by omega)).trans HG2.out)
  obtain ⟨g2, k3, rfl, hk3, hg2l, hg2b⟩ := own_some hown3 (by omega)
  have hsec3 : SecIn w3 g2 nd f := fun j hj => by
    have := hown3.cells (g := g2) rfl j (.string (f j)) (by rw [List.getElem?_append_left (by rw [secV_len]; exact hj)]; exact secV_at f nd j hj)
    have e : (⟨g2, 0, none⟩ : Addr).add j = ⟨g2, j, none⟩ := by by_cases h0 : j = 0 <;> simp [Addr.add, h0]
    rwa [e] at this
  obtain ⟨d0, d1, d2, d3, d4, d5, d6, d7, d8⟩ := cells9 hg3
  have hs3 := hb3.size
  have HB3 := hideF hb3
  have HG3 := hideF hg3
  have HO3 := hideF hown3
  have HSEC3 := hideF hsec3
  clear hb3 hg3 hown3 hsec3 hgrow3 HO2 HG2 HB2
  go_wp2_with fail
  refine (ownConfig_any s0 s1 s2 s3 c h u b n k ad ((List.range n).map ln) w3 (by simp) (by omega) (HSRC.out.bel (fun a c e => by cases e; exact (HLT.out a rfl).1) HB3.out) (fun a e => Nat.lt_of_lt_of_le (HLT.out a e).1 hs3)).mono ?_
  rintro e w4 ⟨g, cap, rfl, hown4, hb4⟩
  have hg4 := (hb4.block w.heap.size (by have := lt_of_block HG3.out; exact this)).trans HG3.out
  have HB4 := hideF (bel_then HB3.out hb4)
  have HB34 := hideF hb4
  have HO4 := hideF hown4
  have hs4 := hb4.size
  have hgl4 := (hown4.lt g rfl)
  have hcap4 : n + 1 <= cap := by
    obtain ⟨g', k', e, h1, _, _⟩ := own_some hown4 (by omega)
    simp only [Value.slice.injEq, true_and] at e
    omega
  obtain ⟨e0, e1, e2, e3, e4, e5, e6, e7, e8⟩ := cells9 hg4
  have HG4 := hideF hg4
  clear hown4 hb4 hg4 d0 d1 d2 d3 d4 d5 d6 d7 d8
  have hkI : (nd : Int) <= (k3 : Int) := by omega
  go_upto_region 5 with fail
  obtain ⟨Z, hZ⟩ : ∃ Z, Z = w4.alloc (.cells #[.int .i64 s0, .int .i64 s1, .int .i64 s2, .int .i64 s3, .int .i64 c, .int .i64 h, .int .i64 u, .slice (some ⟨g, 0, none⟩) n cap, .int .i64 b] 39) := ⟨_, rfl⟩
  have hZb : Below w4.heap.size w4 Z := by rw [hZ]; exact bel_alloc (Below.refl _ _) _
  have hZs : Z.heap.size = w4.heap.size + 1 := by rw [hZ]; simp
  have hZg : Z.heap[w4.heap.size]? = some (.cells #[.int .i64 s0, .int .i64 s1, .int .i64 s2, .int .i64 s3, .int .i64 c, .int .i64 h, .int .i64 u, .slice (some ⟨g, 0, none⟩) n cap, .int .i64 b] 39 (0, 0)) := by rw [hZ]; exact heap_alloc_new w4 _
  rw [<- hZ]
  clear hZ
  obtain ⟨z0, z1, z2, z3, z4, z5, z6, z7, z8⟩ := cells9 hZg
  have hsecZ : SecIn Z g2 nd f := (HSEC3.out.bel hg2l HB34.out).bel (by omega) hZb
  have hlc : ∀ j, j < n -> Z.cell? ⟨g, j, none⟩ = some (.int .i64 (ln j)) := fun j hj => by
    rw [(bcell hZb).1 _ _ hgl4.2]
    have := HO4.out.cells (g := g) rfl j (.int .i64 (ln j)) (by
      have e : ((List.range n).map ln ++ [70000])[j]? = some (ln j) := by rw [List.getElem?_append_left (by simpa using hj), List.getElem?_map, List.getElem?_range hj]; rfl
      exact encI_at _ j _ e)
    have e : (⟨g, 0, none⟩ : Addr).add j = ⟨g, j, none⟩ := by by_cases h0 : j = 0 <;> simp [Addr.add, h0]
    rwa [e] at this
  have HBZ := hideF (bel_then HB4.out hZb)
  have HOPZ := hideF (HOP.out Z.drew g2 k3 g cap (bel_then HB4.out hZb).drew (by show g2 < Z.heap.size; omega) hsecZ (by show g < Z.heap.size; omega) hlc (by omega))
  have HGZ : Hid (Z.heap[w.heap.size]? = some (.cells #[.int .i64 s0, .int .i64 s1, .int .i64 s2, .int .i64 s3, .int .i64 c, .int .i64 h, .int .i64 u, .slice ad n k, .int .i64 b] 39 (0, 0))) := (hZb.block _ (lt_of_block HG4.out)).trans HG4.out
  have HZG := hideF hZg
  have HOZ3 : Hid (Z.ownsRow W.heap.size 9 1 (.slice (some ⟨g2, 0, none⟩) (nd + 1) k3) (nd + 1) (secV f nd ++ [.string spare])) := ownsRow_below (ownsRow_below HO3.out HB34.out) hZb
  have HOZ4 : Hid (Z.ownsRow w3.heap.size 3 1 (.slice (some ⟨g, 0, none⟩) (n + 1) cap) (n + 1) (((List.range n).map ln ++ [70000]).flatMap encI)) := ownsRow_below HO4.out hZb
  have hwsz := lt_of_block HGZ.out
  have hZs4 := lt_of_block hZg
  clear hZb hZg hsecZ hlc e0 e1 e2 e3 e4 e5 e6 e7 e8 HO3 HO4 HSEC3 HG4 HG3
  go_cut [12, 13, 14] from 26 to 35 (fun dv va er wx => er = .int .i64 err /\ wx.ownsRow Z.heap.size 77 4 va A.length (A.flatMap encA) /\ Below Z.heap.size Z wx /\ P Z.heap.size dv wx)
  case first =>
    go_region_law (first
      | (refine step_call rfl 25 #[.tmp 27, .tmp 31] #[39, 30] rfl #[.agg #[.int .i64 s0, .int .i64 s1, .int .i64 s2, .int .i64 s3, .int .i64 c, .int .i64 h, .int .i64 u, .slice (some ⟨g, 0, none⟩) n cap, .int .i64 b], .slice (some ⟨g2, 0, none⟩) nd k3] (by first | (simp [Act.eval]; done) | simp [Act.eval, Act.put]) (enterOpen _ _ _) _ HOPZ.out ?_; rintro v w6 ⟨dv, va, rfl, hva, hb6, hP⟩))
    all_goals
      go_wp2
      go_meet
      exact ⟨rfl, hva, below_then_drew1 hb6, hP⟩
  case rest =>
    obtain ⟨rfl, hva, hb6, hP⟩ := hcut
    have hs6 := hb6.size
    have HBW := hideF (bel_then HBZ.out hb6)
    have hB : B <= w.heap.size := HBK.out.lo.2
    have HB6 := hideF hb6
    have HP := hideF hP
    have HVA := hideF hva
    obtain ⟨p0, p1, p2, p3, p4, p5, p6, p7, p8⟩ := cells9 ((hb6.block _ hZs4).trans HZG.out)
    obtain ⟨r0, r1, r2, r3, r4, r5, r6, r7, r8⟩ := cells9 ((hb6.block _ hwsz).trans HGZ.out)
    have hon : ∀ x, w.heap.size <= x -> ¬ b0.on kb x := fun x hx hb => by have := hold.out x hb; omega
    have HON := hideF hon
    have HBC := hideF (backConfig_any s0 s1 s2 s3 c h u b s0 s1 s2 s3 c h u b n k cap g kb m B ad ln b0 wc (HBK.out.below HBW.out) hm (HV.out.bel HBW.out) (by omega) (own_base (ownsRow_below HOZ4.out hb6) (by omega)) (hon g (by omega)))
    clear hb6 hP hva hon z0 z1 z2 z3 z4 z5 z6 z7 z8 HZG HGZ
    go_wp2_with fail
    refine HBC.out.mono ?_
    rintro e w7 ⟨rfl, b1, hbk1, hft1⟩
    have HK7 : Hid (Kept1 w w7 kb b0 b1) := ((Kept1.refl w kb b0).below HBW.out).book hft1 (fun x hx => by have e : some g = some x := hx; cases e; omega)
    have HBK1 := hideF hbk1
    -- what lies above is as it was
    have hkp7 : ∀ x, w.heap.size <= x -> x < wc.heap.size -> x ≠ g -> w7.heap[x]? = wc.heap[x]? /\ ¬ b1.on kb x := fun x h1 h2 h3 => ⟨hft1.keep x h2 (HON.out x h1) (fun e => h3 (by have e' : some g = some x := e; cases e'; rfl)), fun hb => by
      rcases hft1.on x hb with r | r | r
      . exact HON.out x h1 r
      . exact h3 (by have e' : some g = some x := r; cases e'; rfl)
      . omega⟩
    have HKP7 := hideF hkp7
    have hs7 := hft1.size
    clear hbk1 hft1 p0 p1 p2 p3 p4 p5 p6 p7 p8 r0 r1 r2 r3 r4 r5 r6 r7 r8 HBC
    have hg2g : g2 ≠ g := by omega
    have hwg : W.heap.size = w.heap.size + 1 := hWs
    have HO7 : Hid (w7.ownsRow W.heap.size 9 1 (.slice (some ⟨g2, 0, none⟩) (nd + 1) k3) (nd + 1) (secV f nd ++ [.string spare])) := own_same (ownsRow_below HOZ3.out HB6.out) fun x hx => by
      have e : some g2 = some x := hx
      cases e
      exact (HKP7.out g2 (by omega) (by omega) hg2g).1
    have HL7 : Hid (∀ j, j < nd -> w7.cell? ⟨g2, j, none⟩ = some (.string (f j))) := fun j hj => by
      have := HO7.out.cells (g := g2) rfl j (.string (f j)) (by rw [List.getElem?_append_left (by rw [secV_len]; exact hj)]; exact secV_at f nd j hj)
      have e : (⟨g2, 0, none⟩ : Addr).add j = ⟨g2, j, none⟩ := by by_cases h0 : j = 0 <;> simp [Addr.add, h0]
      rwa [e] at this
    have HL7s : Hid (w7.cell? ⟨g2, nd, none⟩ = some (.string spare)) := by
      have := HO7.out.cells (g := g2) rfl nd (.string spare) (by rw [List.getElem?_append_right (by rw [secV_len]; exact Nat.le_refl _), secV_len, Nat.sub_self]; rfl)
      have e : (⟨g2, 0, none⟩ : Addr).add nd = ⟨g2, nd, none⟩ := by by_cases h0 : nd = 0 <;> simp [Addr.add, h0]
      rwa [e] at this
    have HDT7 : Hid (ValT w7 a2 nd f) := fun j hj => by
      obtain ⟨x, o, e, hx, hc⟩ := HDT.out j hj
      have hl := HLT2.out ⟨x, o, none⟩ e
      refine ⟨x, o, e, Nat.lt_of_lt_of_le hx HK7.out.size, ?_⟩
      rw [World.cell?_of_block (a := ⟨x, o + j, none⟩) (HK7.out.keep x hl.1 hl.2)]
      exact hc
    go_wp2_with fail
    go_loopw [15, 16] (fun okv iv wr => ∃ (j nn : Nat), okv = .bool true /\ iv = .int .i64 (j : Nat) /\ j <= nd /\ wr = w7.drewN nn) (fun _ iv _ => nd - (intOf iv).toNat)
    case atStart => exact ⟨0, 0, rfl, rfl, Nat.zero_le _, rfl⟩
    case round =>
      obtain ⟨j, nn, rfl, rfl, hj, rfl⟩ := hrel
      by_cases hjl : j < nd
      . obtain ⟨x, o, rfl, hx, hcx⟩ := HDT7.out j hjl
        have hcl := HL7.out j hjl
        have HJL : Hid (j + 1 <= nd) := hjl
        have HWJ : Hid (wrap64 ((j : Int) + 1) = ((j + 1 : Nat) : Int)) := by show _ = _; simp only [wrap64]; omega
        have hj1 : (j : Int) < (nd : Int) + 1 := by omega
        go_wp2_with fail
        go_quiet (fail)
        go_wp2
        go_roundw
        case rel => exact ⟨j + 1, _, rfl, by first | rw [HWJ.out] | rfl, HJL.out, rfl⟩
        case measure => have := HJL.out; first | (rw [HWJ.out]; simp only [intOf]; omega) | (simp only [intOf]; omega)
      . obtain rfl : j = nd := by omega
        have hcs := HL7s.out
        unfold spare at hcs
        go_wp2_with fail
        have hYb : Below w7.heap.size w7 (w7.drewN nn) := below_drewN (Below.refl _ _) nn
        obtain ⟨Y, hY⟩ : ∃ Y, Y = w7.drewN nn := ⟨_, rfl⟩
        rw [<- hY] at hYb ⊢
        have hYs : Y.heap.size = w7.heap.size := by rw [hY]; rfl
        clear hY
        have hup : ∀ x, (Z.heap.size <= x /\ x < wc.heap.size) -> x < wc.heap.size /\ Y.heap[x]? = wc.heap[x]? /\ ¬ b1.on kb x := fun x hx => by
          obtain ⟨q1, q2⟩ := HKP7.out x (by omega) hx.2 (by omega)
          exact ⟨hx.2, (hYb.block x (by omega)).trans q1, q2⟩
        have HUP := hideF hup
        have hxs : ((List.range j).map f ++ [spare]).length = j + 1 := by simp
        have hV : Y.ownsRow B 9 1 (.slice (some ⟨g2, 0, none⟩) (j + 1) k3) ((List.range j).map f ++ [spare]).length (((List.range j).map f ++ [spare]).flatMap encT) := by
          rw [hxs, List.flatMap_append]
          exact own_base (ownsRow_below HO7.out hYb) (by omega)
        refine (book_text Y B kb (m + 2) b1 _ ((List.range j).map f ++ [spare]) (HBK1.out.below hYb) (by omega) hV (by rw [hxs]; omega) (fun x hx => ?_)).mono ?_
        . have e : some g2 = some x := hx
          cases e
          exact (HKP7.out g2 (by omega) (by omega) hg2g).2
        rintro e w8 ⟨rfl, b2, hbk2, hst2, _, _⟩
        have HK8 : Hid (Kept1 w w8 kb b0 b2) := (HK7.out.below hYb).book hst2.ft (fun x hx => by have e : some g2 = some x := hx; cases e; omega)
        have HUP8 := hideF (up_step HUP.out (by omega) hst2.ft (fun x hx e => by have e : some g2 = some x := e; cases e; omega))
        have HBK2 := hideF hbk2
        have hs8 := hst2.size
        clear hbk2 hst2 hV hxs hcs hup hYb
        go_wp2_with fail
        refine (book_textMarked w8 B kb (m + 2 + 1) b2 HBK2.out (by omega)).mono ?_
        rintro e w9 ⟨rfl, b3, hbk3, hst3, _, _⟩
        have HK9 : Hid (Kept1 w w9 kb b0 b3) := HK8.out.book hst3.ft (fun x hx => by simp [Value.ownBlock] at hx)
        have HUP9 := hideF (up_step HUP8.out (by omega) hst3.ft (fun x hx e => by simp [Value.ownBlock] at e))
        have HBK3 := hideF hbk3
        have hs9 := hst3.size
        have hva9 : w9.ownsRow Z.heap.size 77 4 u13 A.length (A.flatMap encA) := own_same HVA.out fun x hx => (HUP9.out x (HVA.out.lt x hx)).2.1
        have HVA9 := hideF hva9
        have HSA := hideF (row_src hva9)
        obtain ⟨av, cv, hav, _⟩ := own_view hva9
        clear hbk3 hst3 hva9
        subst hav
        go_upto_region 16 with (at_builtin; go_must (refine wpList_append_srck rfl (.tmp 72) (.tmp 73) 31 rfl w9.heap.size 77 i1 _ 4 40 Tryz.underlying31 ji jz0 jz1 jz2 rfl (by decide) (.slice none 0 0) 0 [] rfl (World.ownsRow_nil _ _ _ _) _ A.length (A.flatMap encA) rfl HSA.out (flat_len encA 4 (fun _ => rfl) _) (encA_one _) (by unfold maxLen; omega) (by omega) (Nat.le_refl _) ?_; intro ov wA hownA hgrowA _))
        rw [Nat.zero_add, List.nil_append] at hownA
        have hbA : Below w9.heap.size w9 wA := (Below.refl _ _).grown hgrowA (Nat.le_refl _) (fun k hk => by simp [Value.ownBlock] at hk)
        have hsA := hbA.size
        have HUPA : Hid (∀ x, (Z.heap.size <= x /\ x < wc.heap.size) -> x < wc.heap.size /\ wA.heap[x]? = wc.heap[x]? /\ ¬ b3.on kb x) := fun x hx => by
          obtain ⟨q1, q2, q3⟩ := HUP9.out x hx
          exact ⟨q1, (hbA.block x (by omega)).trans q2, q3⟩
        have hvaA : wA.ownsRow B 77 4 (.slice av A.length cv) A.length (A.flatMap encA) := own_base (ownsRow_below HVA9.out hbA) (by omega)
        have HOA := hideF hownA
        have HKA := hideF (HK9.out.below hbA)
        have HBA := hideF hbA
        have hBKA := HBK3.out.below hbA
        obtain ⟨ao, co, hao, _⟩ := own_view hownA
        subst hao
        clear hownA hgrowA
        go_wp2_with fail
        refine (book_act wA B kb (m + 2 + 1 + 1) b3 _ A hBKA (by omega) hvaA (by omega) (fun x hx => (HUPA.out x (HVA.out.lt x hx)).2.2)).mono ?_
        rintro e wF ⟨rfl, b4, hbk4, hst4, _, _⟩
        have hovn : ∀ x, Value.ownBlock (.slice ao A.length co) = some x -> ¬ b4.on kb x /\ wc.heap.size <= x := fun x hx => by
          have hl := HOA.out.lt x hx
          refine ⟨fun hb => ?_, by omega⟩
          rcases hst4.on x hb with r | r | r
          . have := HBK3.out.here x r; omega
          . have := (HVA.out.lt x r).2; omega
          . omega
        have hovF : wF.ownsRow w.heap.size 77 4 (.slice ao A.length co) A.length (A.flatMap encA) := own_base (own_same HOA.out fun x hx => hst4.keep x (HOA.out.lt x hx).2 (fun hb => by have := HBK3.out.here x hb; have := (HOA.out.lt x hx).1; omega)) (by have := HK9.out.size; omega)
        have hKF : Kept1 w wF kb b0 b4 := HKA.out.book hst4.ft (fun x hx => by have := (HVA.out.lt x hx).1; omega)
        have hdvF : ∀ (x : Nat) (cur : Array Value) (t : TypeId), Z.heap.size <= x -> wc.heap[x]? = some (.cells cur t (0, 0)) -> t ≠ 77 -> wF.heap[x]? = wc.heap[x]? /\ ¬ b4.on kb x := fun x cur t h1 h2 h3 => by
          have hx2 := lt_of_block h2
          have hne : Value.ownBlock (.slice av A.length cv) ≠ some x := fun e => by
            obtain ⟨cl, hcl⟩ := own_block HVA.out x e
            exact ne_types h2 hcl h3 rfl
          obtain ⟨q1, q2, q3⟩ := HUPA.out x ⟨h1, hx2⟩
          refine ⟨(hst4.keep x (by omega) q3).trans q2, fun hb => ?_⟩
          rcases hst4.on x hb with r | r | r
          . exact q3 r
          . exact hne r
          . omega
        have hsF := hst4.size
        have HBK4 := hideF hbk4
        have HOV := hideF hovn
        have HOVF := hideF hovF
        have HKF := hideF hKF
        have HDVF := hideF hdvF
        clear hbk4 hst4 hovn hovF hKF hdvF hBKA hvaA hbA
        go_wp2
        refine bodyPost_ret (results_tmp4 rfl _ _ _) rfl ?_
        exact ⟨u12, .slice ao A.length co, b4, Z.heap.size, wc, rfl, HBK4.out, HKF.out, HOVF.out, HOV.out, by omega, HP.out, HDVF.out, by omega⟩
end Go.Proofs.YtcpldcojckhapaaGreat

set_option maxRecDepth 100000
namespace Go.Proofs.YtcpldcojckhapaaGreat
open Go.RowKit
def Agr1 (w : World) (c c' : Nat -> Nat) : Prop := ∀ g, g < w.heap.size -> c g ≠ 1 -> c' g = c g
theorem Agr1.mid {w : World} {c c' : Nat -> Nat} (h : Agr1 w c c') : ∃ c0, Agr w c c0 /\ ∀ g, c0 g ≠ 1 -> c' g = c0 g := by
  refine ⟨fun g => if g < w.heap.size then c g else c' g, fun g hg => if_pos hg, fun g hg => ?_⟩
  by_cases hl : g < w.heap.size
  . simp only [if_pos hl] at hg ⊢; exact h g hl hg
  . simp only [if_neg hl]
section
variable {w w' : World} {B : Nat} {c c' : Nat -> Nat} {k : Nat}
theorem RefIn.recol {p : Rfm} {D : Dev} {left : List (List Int)} {safe : Nat} {ys : Nat -> ByteArray} {zs : Nat -> Bool} (h : RefIn w B c p D left safe ys zs) (hc : ∀ g, c g ≠ 1 -> c' g = c g) : RefIn w B c' p D left safe ys zs := by
  have key : ∀ {g n}, c g = n -> n ≠ 1 -> c' g = n := fun {g n} h1 h2 => (hc g (by rw [h1]; exact h2)).trans h1
  refine ⟨h.dev, h.tab, h.inj, h.lnb, h.lns, h.ybs, h.zbs, h.wt, h.lf, fun j l hj => ?_, key h.cr (by decide), fun i hi => key (h.cG i hi) (by decide), key h.cy (by decide), key h.cz (by decide), fun g hg => key (h.cw g hg) (by decide), fun g hg => key (h.cl g hg) (by decide), key h.cb (by decide), h.lo⟩
  obtain ⟨v, h1, h2, h3⟩ := h.lfs j l hj
  exact ⟨v, h1, h2, fun g hg => key (h3 g hg) (by decide)⟩
theorem RigIn.recol {q : Plc} {D : Dev} {s : Ls} {nd : Nat} (h : RigIn w B c q D s nd) (hc : ∀ g, c g ≠ 1 -> c' g = c g) : RigIn w B c' q D s nd := by
  have key : ∀ {g n}, c g = n -> n ≠ 1 -> c' g = n := fun {g n} h1 h2 => (hc g (by rw [h1]; exact h2)).trans h1
  exact ⟨h.rig, h.dk, h.wet, key h.cg (by decide), fun g hg => key (h.cd g hg) (by decide), fun g hg => key (h.cw g hg) (by decide), h.lo⟩
theorem RefIn.frame1 {p : Rfm} {D : Dev} {left : List (List Int)} {safe : Nat} {ys : Nat -> ByteArray} {zs : Nat -> Bool} (h : RefIn w B c p D left safe ys zs) (hf : Fc c k w w') (ha : Agr1 w c c') (h3 : k ≠ 3) (h4 : k ≠ 4) (h5 : k ≠ 5) : RefIn w' B c' p D left safe ys zs := by
  obtain ⟨c0, h1, h2⟩ := ha.mid
  exact (h.frame hf h1 h3 h4 h5).recol h2
theorem RigIn.frame1 {q : Plc} {D : Dev} {s : Ls} {nd : Nat} (h : RigIn w B c q D s nd) (hf : Fc c k w w') (ha : Agr1 w c c') (hk : k ≠ 7) : RigIn w' B c' q D s nd := by
  obtain ⟨c0, h1, h2⟩ := ha.mid
  exact (h.frame hf h1 hk).recol h2
end
structure Cf where
  (s0 s1 s2 s3 c h u n b : Nat)
  kn : Nat -> Nat
def Cf.z (F : Cf) : Nat := (F.c + 7) / 8 + 2 * F.h
def Cf.sec (F : Cf) : Nat := max 1 ((F.z + 61) / 62)
structure CfOk (F : Cf) : Prop where
  s0 : F.s0 <= 60
  s1 : F.s1 <= 60
  s2 : F.s2 <= 60
  s3 : F.s3 <= 60
  c : F.c <= F.s0
  h : F.h <= F.s2
  u : 1 <= F.u /\ F.u <= 247
  n : 1 <= F.n /\ F.n <= 4
  b : 1 <= F.b /\ F.b <= 8
  kn : ∀ j, j < F.n -> F.kn j <= 1
def Cf.dev (F : Cf) (B lat st : Nat) (S : ByteArray) : Dev := dev2 F.s0 F.s1 F.s2 F.s3 F.c F.h F.u F.n F.b F.sec F.kn B lat st S
set_option maxHeartbeats 1000000 in
theorem opens_dev (w : World) (B kb m : Nat) (c : Nat -> Nat) (b : Bks) (F : Cf) (k nd k2 : Nat) (ad a2 : Option Addr) (f : Nat -> ByteArray)
    (hbk : BkC w B c kb m b) (hN : Nrm w B c) (hF : CfOk F) (hm : m <= 900000) (hv : Vals w ad F.n (fun j => (F.kn j : Nat))) (hsrc : Src w (.slice ad F.n k) F.n (((List.range F.n).map (fun j => ((F.kn j : Nat) : Int))).flatMap encI)) (hlt : ∀ a, ad = some a -> a.block < w.heap.size /\ ¬ b.on kb a.block)
    (hd : Src w (.slice a2 nd k2) nd (secV f nd)) (hdt : ValT w a2 nd f) (hnd : 2 * F.sec <= nd /\ nd <= 64) (hlt2 : ∀ a, a2 = some a -> a.block < w.heap.size /\ ¬ b.on kb a.block) (hfz : ∀ j, j < nd -> (f j).size = 64) :
    Calls Tryz.prog 13 #[.agg #[.int .i64 (F.s0 : Nat), .int .i64 (F.s1 : Nat), .int .i64 (F.s2 : Nat), .int .i64 (F.s3 : Nat), .int .i64 (F.c : Nat), .int .i64 (F.h : Nat), .int .i64 (F.u : Nat), .slice ad F.n k, .int .i64 (F.b : Nat)], .slice a2 nd k2, .pointer (some ⟨kb, 0, none⟩)] w fun e w' => ∃ q1 ov b' c' N, e = .returned (.tuple #[.pointer (some ⟨q1.d, 0, none⟩), ov, .int .i64 0, .bool true]) /\ BkC w' B c' kb (m + 5) b' /\ Nrm w' B c' /\ DevC w' B c' q1 (F.dev N (latC f F.sec) (stC f F.sec) (dataC F.z F.sec f)) /\
      w'.ownsRow w.heap.size 77 4 ov (readyA f F.sec (latC f F.sec) (stC f F.sec)).length ((readyA f F.sec (latC f F.sec) (stC f F.sec)).flatMap encA) /\ (∀ g, ov.ownBlock = some g -> c' g = 9) /\ Agr1 w c c' /\ Fc c 1 w w' := by
  have hB := hbk.bk.lo.2
  have hsec : F.sec = max 1 ((F.z + 61) / 62) := rfl
  have hz : F.z = (F.c + 7) / 8 + 2 * F.h := rfl
  have hc := hF.c
  have hh := hF.h
  have h0 := hF.s0
  have h2 := hF.s2
  have hrl : (readyA f F.sec (latC f F.sec) (stC f F.sec)).length <= 900000 := by
    have := (rdS_bd f F.sec (latC f F.sec) (stC f F.sec) (latC_le _ _) (stC_le _ _) 2).2.2
    unfold readyA
    split
    . simp
    . rw [List.length_append, List.length_singleton]; omega
  refine (opens_any w B kb m b F.s0 F.s1 F.s2 F.s3 F.c F.h F.u F.b F.n k nd k2 ad a2 (fun j => (F.kn j : Nat)) f 0 (readyA f F.sec (latC f F.sec) (stC f F.sec)) (fun N dv wO => ∃ d, dv = .pointer (some ⟨d, 0, none⟩) /\ DevAt wO d (F.dev N (latC f F.sec) (stC f F.sec) (dataC F.z F.sec f))) hbk.bk hm hv hsrc (by have := hF.n; omega) hlt hd hdt (by omega) hlt2 (by omega) ?_).mono ?_
  . intro w1 g2 k3 g cap _ hg2 hsc hg hcl hk3
    refine (open_gen F.s0 F.s1 F.s2 F.s3 F.c F.h F.u F.n cap F.b g g2 nd k3 F.z F.sec F.kn f w1 hF.s0 hF.s1 hF.s2 hF.s3 hF.c hF.h hz hsec hF.u.1 hF.u.2 hF.n.1 hF.n.2 hF.b.1 hF.b.2 hg hcl hF.kn hk3 hnd.1 hnd.2 hg2 hsc hfz).mono ?_
    rintro e w' ⟨d, va, rfl, g1, g2', g3⟩
    exact ⟨_, rfl, _, va, rfl, g2', g3, d, rfl, g1⟩
  . rintro e w' ⟨dv, ov, b', N, wO, rfl, hbk', hK, hov, hovn, hwN, ⟨d, rfl, L, S, E, wv, hD⟩, hup, hsO⟩
    have hbase : (F.dev N (latC f F.sec) (stC f F.sec) (dataC F.z F.sec f)).base = N := rfl
    obtain ⟨c1, hc1⟩ : ∃ c1 : Nat -> Nat, ∀ g, (g < w.heap.size -> c1 g = c g) /\ (w.heap.size <= g -> b'.on kb g -> c1 g = 1) /\ (w.heap.size <= g -> ¬ b'.on kb g -> g < wO.heap.size -> c1 g = 2) /\ (w.heap.size <= g -> ¬ b'.on kb g -> wO.heap.size <= g -> c1 g = 9) := by
      classical
      refine ⟨fun g => if g < w.heap.size then c g else if b'.on kb g then 1 else if g < wO.heap.size then 2 else 9, fun g => ⟨fun h => if_pos h, fun h h1 => ?_, fun h h1 h2 => ?_, fun h h1 h2 => ?_⟩⟩
      . simp only [if_neg (show ¬ g < w.heap.size by omega), if_pos h1]
      . simp only [if_neg (show ¬ g < w.heap.size by omega), if_neg h1, if_pos h2]
      . simp only [if_neg (show ¬ g < w.heap.size by omega), if_neg h1, if_neg (show ¬ g < wO.heap.size by omega)]
    have hcol : ∀ {g : Nat} {cur : Array Value} {t : TypeId}, N <= g -> wO.heap[g]? = some (.cells cur t (0, 0)) -> t ≠ 77 -> w'.heap[g]? = wO.heap[g]? /\ c1 g = 2 := fun {g cur t} h1 h2 h3 => by
      obtain ⟨q1, q2⟩ := hup g cur t h1 h2 h3
      exact ⟨q1, (hc1 g).2.2.1 (by omega) q2 (lt_of_block h2)⟩
    have hBk : BkC w' B c1 kb (m + 5) (b'.trim w') := by
      refine ⟨hbk'.trim, fun g hg => ?_, fun g hg => ?_, fun g hg => hbk'.plain hg⟩
      . have hg' := Bks.trim_on hg
        rcases Nat.lt_or_ge g w.heap.size with hl | hl
        . rw [(hc1 g).1 hl]
          rcases hK.on g hg' with r | r
          . exact hbk.col g r
          . omega
        . exact (hc1 g).2.1 hl hg'
      . rcases hK.on g (Bks.trim_on hg) with r | r
        . exact hbk.hi g r
        . omega
    obtain ⟨lo1, lo2, lo3, lo4⟩ := hD.lo
    rw [hbase] at lo1 lo2 lo3 lo4
    obtain ⟨cl, hcl⟩ := hD.lines.block
    have hDv : DevC w' B c1 ⟨0, d, L, S, E, wv, ⟨0, 0, 0, 0, 0, fun _ => 0, .slice none 0 0, .slice none 0 0, []⟩, .slice none 0 0, .slice none 0 0⟩ (F.dev N (latC f F.sec) (stC f F.sec) (dataC F.z F.sec f)) := by
      refine ⟨⟨(hcol lo1 hD.dev (by decide)).1.trans hD.dev, hD.lines.same (hcol lo2 hcl (by decide)).1, fun i hi => ?_, hD.inj, (hcol lo3 hD.store (by decide)).1.trans hD.store, own_same hD.wait fun g hg => ?_, hD.lo⟩, (hcol lo1 hD.dev (by decide)).2, (hcol lo2 hcl (by decide)).2, (hcol lo3 hD.store (by decide)).2, fun i hi => ?_, by rw [hbase]; omega⟩
      . obtain ⟨cg, hcg⟩ := (hD.ent i hi).block
        exact (hD.ent i hi).same (hcol (lo4 i hi) hcg (by decide)).1
      . obtain ⟨cg, hcg⟩ := own_block hD.wait g hg
        exact (hcol (hD.wait.lt g hg).1 hcg (by decide)).1
      . obtain ⟨cg, hcg⟩ := (hD.ent i hi).block
        exact (hcol (lo4 i hi) hcg (by decide)).2
    have hno : ∀ g, c g ≠ 1 -> ¬ b.on kb g := fun g h1 h2 => h1 (hbk.col g h2)
    refine ⟨_, ov, b'.trim w', nc w' B c1, N, rfl, hBk.nc, nc_nrm _ _ _, hDv.nc, hov, nc_row hov hB (by decide) (by decide) (fun g hg => (hc1 g).2.2.2 (hov.lt g hg).1 (hovn g hg).1 (hovn g hg).2), fun g hg h1 => ?_, ⟨hK.os, hK.tape, hK.output, hK.size, fun g _ _ hg _ h1 => hK.keep g (lt_of_block hg) (hno g h1), fun g hg h1 _ => hK.keep g hg (hno g (by omega))⟩⟩
    unfold nc
    by_cases hgB : g < B
    . rw [if_pos hgB, (hN.zero g).2 hgB]
    . rw [if_neg hgB]
      have hne : c g ≠ 0 := fun e => hgB ((hN.zero g).1 e)
      split
      . rename_i h6
        obtain ⟨cur, h6⟩ := h6
        rw [hK.keep g hg (hno g h1)] at h6
        exact (hN.wait g cur (by omega) h6).symm
      . rw [(hc1 g).1 hg, if_neg hne]
end Go.Proofs.YtcpldcojckhapaaGreat
