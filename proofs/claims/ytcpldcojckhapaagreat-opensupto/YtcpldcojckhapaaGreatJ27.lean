/-
  
-/
import Derived.Test.YtcpldcojckhapaaGreatJ14
import Derived.Test.YtcpldcojckhapaaGreatJ15
import Derived.Test.YtcpldcojckhapaaGreatJ26
import Derived.Test.YtcpldcojckhapaaGreatJ20
import Derived.Test.YtcpldcojckhapaaGreatJ5
set_option maxRecDepth 100000
namespace Go.Proofs.YtcpldcojckhapaaGreat
open Go.RowKit
def Vals (w : World) (ad : Option Addr) (len : Nat) (vals : Nat -> Int) : Prop :=
  ∀ j, j < len -> ∃ g o, ad = some ⟨g, o, none⟩ /\ g < w.heap.size /\ w.cell? ⟨g, o + j, none⟩ = some (.int .i64 (vals j)) /\ -9223372036854775808 <= vals j /\ vals j <= 9223372036854775807
theorem encI_atL (l : List Int) : ∀ (j : Nat) (u : Value), (l.flatMap encI)[j]? = some u -> ∃ x, l[j]? = some x /\ u = .int .i64 x := by
  have e : l.flatMap encI = l.map fun x => Value.int .i64 x := by
    induction l with
    | nil => rfl
    | cons x l ih => rw [List.flatMap_cons, ih]; rfl
  intro j u h
  rw [e, List.getElem?_map] at h
  obtain ⟨x, hx, rfl⟩ := Option.map_eq_some_iff.1 h
  exact ⟨x, hx, rfl⟩
theorem not_nil28 (a : Addr) (n c : Nat) (w : World) : (binOp .eql 28 (.slice (some a) n c) (.slice none 0 0)).run Tryz.prog w = .ok (.bool false) w := by kernel_rfl
set_option maxRecDepth 100000 in
set_option maxHeartbeats 1000000 in
theorem cloneI_any (xs : List Int) (n g c : Nat) (w : World) (hl : xs.length = n) (hn : n <= 1000) (hg : g < w.heap.size) (hc : ∀ j x, xs[j]? = some x -> w.cell? ⟨g, j, none⟩ = some (.int .i64 x)) :
    Calls Tryz.prog 54 #[.slice (some ⟨g, 0, none⟩) n c] w fun e w' => ∃ v, e = .returned v /\ w'.ownsRow w.heap.size 3 1 v n (xs.flatMap encI) /\ Below w.heap.size w w' := by
  obtain ⟨i0, hi, hz0, hz1, hz2⟩ := info_parts Tryz.infoEI
  have HC : Hid (∀ j u, (xs.flatMap encI)[j]? = some u -> (w.alloc (.cells #[] 3)).cell? ((⟨g, 0, none⟩ : Addr).add j) = some u) := fun j u hj => by
    obtain ⟨x, hx, rfl⟩ := encI_atL xs j u hj
    have e : (⟨g, 0, none⟩ : Addr).add j = ⟨g, j, none⟩ := by by_cases h0 : j = 0 <;> simp [Addr.add, h0]
    rw [e, (bcell (bel_alloc (Below.refl _ w) _)).1 g j hg]
    exact hc j x hx
  have HLN : Hid ((xs.flatMap encI).length = n * 1) := by show _ = _; rw [encI_len, hl, Nat.mul_one]
  have HO : Hid ((w.alloc (.cells #[] 3)).ownsRow w.heap.size 3 1 (.slice (some ⟨w.heap.size, 0, none⟩) 0 0) 0 []) := World.ownsRow_made w #[] 0 (Nat.le_refl _) (by unfold maxLen; omega) rfl
  have hnn := not_nil28 ⟨g, 0, none⟩ n c
  clear hc hl
  go_enter Tryz.func54, Tryz.ntmps54
  go_wp2_with (at_builtin; refine wpList_append_own _ rfl (.tmp 5) (.tmp 6) 28 rfl w.heap.size 3 i0 _ 1 8 Tryz.underlying28 hi hz0 hz1 hz2 rfl (by decide) (.slice (some ⟨w.heap.size, 0, none⟩) 0 0) 0 [] rfl HO.out ⟨g, 0, none⟩ n c (xs.flatMap encI) rfl HLN.out HC.out (encI_one _) (by unfold maxLen; omega) (by omega) (by simp) ?_; intro v' w6 hown6 hgrow6 _; obtain ⟨a6, k6, rfl, _⟩ := own_view hown6)
  go_ret
  refine ⟨_, rfl, ?_, ?_⟩
  . rw [Nat.zero_add, List.nil_append] at hown6
    exact hown6
  . exact (bel_alloc (Below.refl _ w) _).trans ⟨hgrow6.os, hgrow6.tape, hgrow6.output, hgrow6.size, fun k hk => hgrow6.block k (by simp; omega) (fun e => by have := (HO.out.lt k e.symm).1; omega)⟩
set_option maxRecDepth 100000 in
set_option maxHeartbeats 1000000 in
theorem look_any (d L S t : Nat) (E : Nat -> Nat) (wv : Value) (D : Dev) (xs : List Int) (w : World) (h : DevIn w d L S E wv D) (ht : t < 4) (hl : xs.length = D.sz t) (hn : D.sz t <= 1000) (hx : ∀ j x, xs[j]? = some x -> D.ent t j = x) :
    Calls Tryz.prog 14 #[.pointer (some ⟨d, 0, none⟩), .int .i64 (t : Nat)] w fun e w' => ∃ v, e = .returned (.tuple #[v, .int .i64 0]) /\ w'.ownsRow w.heap.size 3 1 v (D.sz t) (xs.flatMap encI) /\ Below w.heap.size w w' := by
  have hce := h.cellE ht
  have hcell : Hid (∀ j x, xs[j]? = some x -> w.cell? ⟨E t, j, none⟩ = some (.int .i64 x)) := fun j x hj => by
    have hjl : j < xs.length := (List.getElem?_eq_some_iff.1 hj).1
    have := (h.ent t ht).cell (i := j) (j := 0) (by omega) (by omega)
    rw [Nat.mul_one, Nat.add_zero] at this
    rw [this, hx j x hj]
  have hE := (h.ent t ht).lt
  have HL := hideF hl
  clear h hx hl
  go_enter Tryz.func14, Tryz.ntmps14
  go_wp2_with fail
  refine (within_yes _ _ _ _ (by omega) (by omega)).mono ?_
  rintro e w1 ⟨rfl, rfl⟩
  go_wp2_with fail
  refine (cloneI_any xs (D.sz t) (E t) (D.sz t) _ HL.out hn hE hcell.out).mono ?_
  rintro e w2 ⟨v, rfl, ho, hb⟩
  obtain ⟨a2, k2, rfl, _⟩ := own_view ho
  have HO := hideF ho
  have HB := hideF hb
  clear ho hb
  go_wp2
  refine bodyPost_ret (v := .tuple #[.slice a2 (D.sz t) k2, .int .i64 0]) (by simp [results, Tryz.results14, go_sem]) rfl ⟨_, rfl, HO.out, HB.out⟩
end Go.Proofs.YtcpldcojckhapaaGreat

set_option maxRecDepth 100000
namespace Go.Proofs.YtcpldcojckhapaaGreat
open Go.RowKit
structure BookFt (w w' : World) (kb : Nat) (b b' : Bks) (v : Value) : Prop where
  os : w'.os = w.os
  tape : w'.tape = w.tape
  output : w'.output = w.output
  size : w.heap.size <= w'.heap.size
  keep : ∀ g, g < w.heap.size -> ¬ b.on kb g -> v.ownBlock ≠ some g -> w'.heap[g]? = w.heap[g]?
  wt : ∀ (g : Nat) (cur : Array Value), w.heap[g]? = some (.cells cur 163 (0, 0)) -> w'.heap[g]? = w.heap[g]?
  on : ∀ g, b'.on kb g -> b.on kb g ∨ v.ownBlock = some g ∨ w.heap.size <= g
theorem BookStep.ft {w w' : World} {kb : Nat} {b b' : Bks} {v : Value} (h : BookStep w w' kb b b' v) : BookFt w w' kb b b' v := ⟨h.os, h.tape, h.output, h.size, fun g h1 h2 _ => h.keep g h1 h2, h.wt, h.on⟩
theorem BookFt.then {w w' w2 : World} {kb : Nat} {b b' b2 : Bks} {v : Value} (h : BookFt w w' kb b b' v) (h2 : BookStep w' w2 kb b' b2 (.slice none 0 0)) : BookFt w w2 kb b b2 v := by
  refine ⟨h2.os.trans h.os, h2.tape.trans h.tape, h2.output.trans h.output, Nat.le_trans h.size h2.size, fun g hg hn hv => (h2.keep g (Nat.lt_of_lt_of_le hg h.size) (fun hb => ?_)).trans (h.keep g hg hn hv), fun g cur hg => (h2.wt g cur ((h.wt g cur hg).trans hg)).trans (h.wt g cur hg), fun g hg => ?_⟩
  . rcases h.on g hb with r | r | r
    . exact hn r
    . exact hv r
    . omega
  . rcases h2.on g hg with r | r | r
    . exact h.on g r
    . simp [Value.ownBlock] at r
    . exact .inr (.inr (Nat.le_trans h.size r))
set_option maxRecDepth 100000 in
set_option maxHeartbeats 4000000 in
theorem backConfig_any (s0 s1 s2 s3 c h u bb t0 t1 t2 t3 d e' f bc : Int) (n k cap g kb m B : Nat) (ad : Option Addr) (ln : Nat -> Int) (b : Bks) (w : World) (hbk : BookIn w B kb m b) (hm : m <= 900000) (hv : Vals w ad n ln) (hn : n <= 1800000)
    (hown : w.ownsRow B 3 1 (.slice (some ⟨g, 0, none⟩) (n + 1) cap) (n + 1) (((List.range n).map ln ++ [70000]).flatMap encI)) (hf : ¬ b.on kb g) :
    Calls Tryz.prog 50 #[.agg #[.int .i64 s0, .int .i64 s1, .int .i64 s2, .int .i64 s3, .int .i64 c, .int .i64 h, .int .i64 u, .slice (some ⟨g, 0, none⟩) n cap, .int .i64 bb], .agg #[.int .i64 t0, .int .i64 t1, .int .i64 t2, .int .i64 t3, .int .i64 d, .int .i64 e', .int .i64 f, .slice ad n k, .int .i64 bc], .pointer (some ⟨kb, 0, none⟩)] w fun e w' => e = .returned (.bool true) /\ ∃ b', BookIn w' B kb (m + 2) b' /\ BookFt w w' kb b b' (.slice (some ⟨g, 0, none⟩) (n + 1) cap) := by
  obtain ⟨W, hW, hWs, hWb, hWg⟩ := cfg_new w s0 s1 s2 s3 c h u bb (.slice (some ⟨g, 0, none⟩) n cap)
  obtain ⟨X, hX, hXs, hXb, hXg⟩ := cfg_new W t0 t1 t2 t3 d e' f bc (.slice ad n k)
  have hXb' := bel_then hWb hXb
  have hXg1 := (hXb.block w.heap.size (by omega)).trans hWg
  have hcap : n + 1 <= cap := by
    rcases hown.2 with ⟨h1, h2⟩ | ⟨g', cap', cur', h1, h2, h3, h4, h5, h6, h7⟩
    . exact absurd h2 (by omega)
    . have : cap = cap' := by simp at h1; exact h1.2
      omega
  have hgl : g < w.heap.size := (hown.lt g rfl).2
  have HC : Hid (∀ j, j < n -> X.cell? ⟨g, j, none⟩ = some (.int .i64 (ln j))) := fun j hj => by
    rw [(bcell hXb').1 g j hgl]
    have hlen : j < ((List.range n).map ln ++ [70000]).length := by simp; omega
    have := hown.cellAt j (by omega)
    rw [this, encI_at _ j (ln j) (by rw [List.getElem?_append_left (by simpa using hj)]; simp [hj])]
  have hcm : X.cell? ⟨g, n, none⟩ = some (.int .i64 70000) := by
    rw [(bcell hXb').1 g n hgl]
    have := hown.cellAt n (by omega)
    rw [this, encI_at _ n 70000 (by rw [List.getElem?_append_right (by simp)]; simp)]
  have HV := hideF (fun j (hj : j < n) => by
    obtain ⟨g', o, h1, h2, h3, h4⟩ := hv j hj
    exact (⟨g', o, h1, ((bcell hXb').1 g' (o + j) h2).trans h3⟩ : ∃ g' o, ad = some ⟨g', o, none⟩ /\ X.cell? ⟨g', o + j, none⟩ = some (.int .i64 (ln j))))
  obtain ⟨c0, c1, c2, c3, c4, c5, c6, c7, c8⟩ := cells9 hXg1
  obtain ⟨r0, r1, r2, r3, r4, r5, r6, r7, r8⟩ := cells9 hXg
  have HBK := hideF (hbk.below hXb')
  have HOWN := hideF (ownsRow_below hown hXb')
  have HXB := hideF hXb'
  have hcI : (n : Int) + 1 <= (cap : Int) := by omega
  have HF := hideF hf
  rw [hWs] at r0 r1 r2 r3 r4 r5 r6 r7 r8
  clear hWg hWb hXg hXb hXb' hXg1 hv hown hbk hf
  go_enter Tryz.func50, Tryz.ntmps50
  go_upto_region 1 with fail
  rw [<- hW, <- hX]
  clear hW hX
  go_wp2_with fail
  go_loopw [9, 10] (fun ok i wr => ∃ q nd : Nat, q <= n /\ i = .int .i64 (q : Nat) /\ ok = .bool true /\ wr = X.drewN nd) (fun _ i _ => n - (intOf i).toNat)
  case atStart => exact ⟨0, 0, Nat.zero_le _, rfl, rfl, rfl⟩
  case round =>
    obtain ⟨q, nd, hq, rfl, rfl, rfl⟩ := hrel
    by_cases hlt : q < n
    . obtain ⟨g', o, rfl, hcq⟩ := HV.out q hlt
      have hcl := HC.out q hlt
      have hqI : (q : Int) < (n : Int) := by omega
      have hqJ : (q : Int) < (n : Int) + 1 := by omega
      go_wp2_with fail
      go_quiet (fail)
      go_wp2
      go_roundw
      case rel => exact ⟨q + 1, nd + nq, by omega, by go_num, rfl, by simp⟩
      case measure => simp [intOf]; omega
    . obtain rfl : q = n := by omega
      obtain ⟨Y, hY⟩ : ∃ Y, Y = X.drewN nd := ⟨_, rfl⟩
      have hYb : Below X.heap.size X Y := by rw [hY]; exact below_drewN (Below.refl _ _) _
      have HBY := hideF (HBK.out.below hYb)
      have HOY := hideF (ownsRow_below HOWN.out hYb)
      have HYB := hideF (bel_then HXB.out hYb)
      rw [<- hY]
      clear hY hYb c0 c1 c2 c3 c4 c5 c6 c7 c8 r0 r1 r2 r3 r4 r5 r6 r7 r8
      go_wp2_with fail
      refine (book_int Y B kb m b (.slice (some ⟨g, 0, none⟩) (q + 1) cap) ((List.range q).map ln ++ [70000]) HBY.out (by omega) (by simpa using HOY.out) (by simp; omega) (fun g' hg' => by
        have : g = g' := by simpa [Value.ownBlock] using hg'
        rw [<- this]; exact HF.out)).mono ?_
      rintro e w1 ⟨rfl, b1, hb1, hst1, _, _⟩
      have HB1 := hideF hb1
      have HS1 := hideF hst1
      clear hb1 hst1
      go_wp2_with fail
      refine (book_intMarked w1 B kb (m + 1) b1 HB1.out (by omega)).mono ?_
      rintro e w2 ⟨rfl, b2, hb2, hst2, _, _⟩
      have HB2 := hideF hb2
      have HS2 := hideF (HS1.out.ft.then hst2)
      clear hb2 hst2
      go_wp2
      go_ret
      have hft := HS2.out
      have hyb := HYB.out
      exact ⟨rfl, b2, HB2.out, hft.os.trans hyb.os, hft.tape.trans hyb.tape, hft.output.trans hyb.output, Nat.le_trans hyb.size hft.size, fun k hk hn hv => (hft.keep k (Nat.lt_of_lt_of_le hk hyb.size) hn hv).trans (hyb.block k hk), fun k cur hk => (hft.wt k cur ((hyb.block k (lt_of_block hk)).trans hk)).trans (hyb.block k (lt_of_block hk)), fun k hk => (hft.on k hk).imp id (fun r => r.imp id (fun r => Nat.le_trans hyb.size r))⟩
end Go.Proofs.YtcpldcojckhapaaGreat

set_option maxRecDepth 100000
namespace Go.Proofs.YtcpldcojckhapaaGreat
open Go.RowKit
structure Fc (c : Nat -> Nat) (k : Nat) (w w' : World) : Prop where
  os : w'.os = w.os
  tape : w'.tape = w.tape
  output : w'.output = w.output
  size : w.heap.size <= w'.heap.size
  keep : ∀ (g : Nat) (cur : Array Value) (t : TypeId), w.heap[g]? = some (.cells cur t (0, 0)) -> (t ≠ 163 ∨ k ≠ 2) -> c g ≠ k -> w'.heap[g]? = w.heap[g]?
  low : ∀ g, g < w.heap.size -> c g = 0 -> k ≠ 0 -> w'.heap[g]? = w.heap[g]?
def Agr (w : World) (c c' : Nat -> Nat) : Prop := ∀ g, g < w.heap.size -> c' g = c g
theorem Agr.refl (w : World) (c : Nat -> Nat) : Agr w c c := fun _ _ => rfl
theorem Agr.trans {w w1 : World} {c c1 c2 : Nat -> Nat} (h : Agr w c c1) (h1 : Agr w1 c1 c2) (hs : w.heap.size <= w1.heap.size) : Agr w c c2 := fun g hg => (h1 g (Nat.lt_of_lt_of_le hg hs)).trans (h g hg)
def colN (w : World) (c : Nat -> Nat) (k : Nat) : Nat -> Nat := fun g => if g < w.heap.size then c g else k
theorem colN_agr (w : World) (c : Nat -> Nat) (k : Nat) : Agr w c (colN w c k) := fun g hg => by unfold colN; rw [if_pos hg]
theorem colN_new (w : World) (c : Nat -> Nat) (k g : Nat) (hg : w.heap.size <= g) : colN w c k g = k := by unfold colN; rw [if_neg (by omega)]
theorem Fc.refl (c : Nat -> Nat) (k : Nat) (w : World) : Fc c k w w := ⟨rfl, rfl, rfl, Nat.le_refl _, fun _ _ _ _ _ _ => rfl, fun _ _ _ _ => rfl⟩
theorem Fc.of_below {c : Nat -> Nat} {k : Nat} {w w' : World} (h : Below w.heap.size w w') : Fc c k w w' := ⟨h.os, h.tape, h.output, h.size, fun g _ _ hg _ _ => h.block g (lt_of_block hg), fun g hg _ _ => h.block g hg⟩
theorem Fc.trans {c c1 : Nat -> Nat} {k : Nat} {w w1 w2 : World} (h : Fc c k w w1) (h1 : Fc c1 k w1 w2) (ha : Agr w c c1) : Fc c k w w2 :=
  ⟨h1.os.trans h.os, h1.tape.trans h.tape, h1.output.trans h.output, Nat.le_trans h.size h1.size, fun g cur t hg ht hc => (h1.keep g cur t ((h.keep g cur t hg ht hc).trans hg) ht (by rw [ha g (lt_of_block hg)]; exact hc)).trans (h.keep g cur t hg ht hc), fun g hg hz hk => (h1.low g (Nat.lt_of_lt_of_le hg h.size) ((ha g hg).trans hz) hk).trans (h.low g hg hz hk)⟩
theorem Fc.then_below {c : Nat -> Nat} {k : Nat} {w w1 w2 : World} (h : Fc c k w w1) (h1 : Below w1.heap.size w1 w2) : Fc c k w w2 := h.trans (Fc.of_below h1) (Agr.refl _ _)
theorem Fc.drewN {c : Nat -> Nat} {k : Nat} {w w1 : World} (h : Fc c k w w1) (n : Nat) : Fc c k w (w1.drewN n) := h.then_below (below_drewN (Below.refl _ _) _)
theorem Fc.setCell {c : Nat -> Nat} {k : Nat} {w w1 : World} (h : Fc c k w w1) (g i : Nat) (hg : w.heap.size <= g ∨ c g = k) (v : Value) : Fc c k w (w1.setCell ⟨g, i, none⟩ v) :=
  ⟨h.os, h.tape, h.output, by simp; exact h.size, fun b cur t hb ht hc => by
    have : b ≠ g := fun e => by
      subst e
      rcases hg with r | r
      . have := lt_of_block hb; omega
      . exact hc r
    rw [heap_setCell_other w1 ⟨g, i, none⟩ b v this]
    exact h.keep b cur t hb ht hc, fun b hb hz hk => by
    have : b ≠ g := fun e => by
      subst e
      rcases hg with r | r
      . omega
      . exact hk (r.symm.trans hz)
    rw [heap_setCell_other w1 ⟨g, i, none⟩ b v this]
    exact h.low b hb hz hk⟩
theorem Fc.chg {c : Nat -> Nat} {k g : Nat} {w w1 w2 : World} (h : Fc c k w w1) (h1 : Chg1 g w1 w2) (hg : w.heap.size <= g ∨ c g = k) : Fc c k w w2 :=
  ⟨h1.os.trans h.os, h1.tape.trans h.tape, h1.output.trans h.output, Nat.le_trans h.size h1.size, fun b cur t hb ht hc => by
    have hne : b ≠ g := fun e => by
      subst e
      rcases hg with r | r
      . have := lt_of_block hb; omega
      . exact hc r
    exact (h1.block b (Nat.lt_of_lt_of_le (lt_of_block hb) h.size) hne).trans (h.keep b cur t hb ht hc), fun b hb hz hk => by
    have hne : b ≠ g := fun e => by
      subst e
      rcases hg with r | r
      . omega
      . exact hk (r.symm.trans hz)
    exact (h1.block b (Nat.lt_of_lt_of_le hb h.size) hne).trans (h.low b hb hz hk)⟩
theorem Fc.grown {c : Nat -> Nat} {k : Nat} {w w1 w2 : World} {row : Option Nat} (h : Fc c k w w1) (hg : w1.grownBy w2 row) (hr : ∀ g, row = some g -> w.heap.size <= g ∨ c g = k) : Fc c k w w2 :=
  ⟨hg.os.trans h.os, hg.tape.trans h.tape, hg.output.trans h.output, Nat.le_trans h.size hg.size, fun b cur t hb ht hc => by
    refine (hg.block b (Nat.lt_of_lt_of_le (lt_of_block hb) h.size) (fun e => ?_)).trans (h.keep b cur t hb ht hc)
    rcases hr b e.symm with r | r
    . have := lt_of_block hb; omega
    . exact hc r, fun b hb hz hk => by
    refine (hg.block b (Nat.lt_of_lt_of_le hb h.size) (fun e => ?_)).trans (h.low b hb hz hk)
    rcases hr b e.symm with r | r
    . omega
    . exact hk (r.symm.trans hz)⟩
theorem Fc.grid {c : Nat -> Nat} {k : Nat} {w w' : World} {g : Nat} {t : TypeId} {n m : Nat} {f : Nat -> Nat -> Value} (h : Fc c k w w') (hG : Grid w g t n m f) (ht : t ≠ 163) (hc : c g ≠ k) : Grid w' g t n m f := by
  obtain ⟨cur, hcur⟩ := hG.block
  exact hG.same (h.keep g cur t hcur (.inl ht) hc)
theorem Fc.own {c : Nat -> Nat} {k B n size : Nat} {e : TypeId} {v : Value} {xs : List Value} {w w' : World} (h : Fc c k w w') (ho : w.ownsRow B e size v n xs) (ht : e ≠ 163) (hc : ∀ g, v.ownBlock = some g -> c g ≠ k) : w'.ownsRow B e size v n xs :=
  own_same ho fun g hg => by
    obtain ⟨cur, hcur⟩ := own_block ho g hg
    exact h.keep g cur e hcur (.inl ht) (hc g hg)
structure Rfm where
  (r yb zb lb cap : Nat)
  G : Nat -> Nat
  (wv lv : Value)
  vs : List Value
def refC (p : Rfm) (D : Dev) (safe : Nat) : Array Value :=
  #[.int .i64 (D.sz 0 : Nat), .int .i64 (D.sz 1 : Nat), .int .i64 (D.sz 2 : Nat), .int .i64 (D.sz 3 : Nat), .int .i64 (D.kp 0 : Nat), .int .i64 (D.kp 2 : Nat), .int .i64 (D.unit : Nat), .slice (some ⟨p.lb, 0, none⟩) D.nl p.cap, .int .i64 (D.batch : Nat),
    .slice (some ⟨p.G 0, 0, none⟩) (D.sz 0) (D.sz 0), .slice (some ⟨p.G 1, 0, none⟩) (D.sz 1) (D.sz 1), .slice (some ⟨p.G 2, 0, none⟩) (D.sz 2) (D.sz 2), .slice (some ⟨p.G 3, 0, none⟩) (D.sz 3) (D.sz 3),
    .slice (some ⟨p.yb, 0, none⟩) D.nl D.nl, .slice (some ⟨p.zb, 0, none⟩) D.nl D.nl, p.wv, .int .i64 (D.uns : Nat), p.lv, .int .i64 (safe : Nat)]
def encW (x : Int × Int × ByteArray) : List Value := [.int .i64 x.2.1, .string x.2.2, .int .i64 x.1]
structure RefIn (w : World) (B : Nat) (c : Nat -> Nat) (p : Rfm) (D : Dev) (left : List (List Int)) (safe : Nat) (ys : Nat -> ByteArray) (zs : Nat -> Bool) : Prop where
  dev : w.heap[p.r]? = some (.cells (refC p D safe) 48 (0, 0))
  tab : ∀ i, i < 4 -> Grid w (p.G i) 3 (D.sz i) 1 (fun k _ => .int .i64 (D.ent i k))
  inj : ∀ i j, i < 4 -> j < 4 -> i ≠ j -> p.G i ≠ p.G j
  lnb : ∃ cur, w.heap[p.lb]? = some (.cells cur 3 (0, 0))
  lns : ∀ i, i < D.nl -> w.cell? ⟨p.lb, i, none⟩ = some (.int .i64 ((D.ln i).kind : Nat))
  ybs : Grid w p.yb 9 D.nl 1 (fun k _ => .string (ys k))
  zbs : Grid w p.zb 4 D.nl 1 (fun k _ => .bool (zs k))
  wt : w.ownsRow B 113 3 p.wv D.wait.length (D.wait.flatMap encW)
  lf : w.ownsRow B 28 1 p.lv left.length p.vs
  lfs : ∀ (j : Nat) (l : List Int), left[j]? = some l -> ∃ v, p.vs[j]? = some v /\ w.ownsRow B 3 1 v l.length (l.flatMap encI) /\ ∀ g, v.ownBlock = some g -> c g = 4
  cr : c p.r = 3
  cG : ∀ i, i < 4 -> c (p.G i) = 3
  cy : c p.yb = 3
  cz : c p.zb = 3
  cw : ∀ g, p.wv.ownBlock = some g -> c g = 3
  cl : ∀ g, p.lv.ownBlock = some g -> c g = 3
  cb : c p.lb = 5
  lo : B <= p.r /\ (∀ i, i < 4 -> B <= p.G i) /\ B <= p.yb /\ B <= p.zb /\ B <= w.heap.size
section
variable {w w' : World} {B : Nat} {c c' : Nat -> Nat} {p : Rfm} {D : Dev} {left : List (List Int)} {safe : Nat} {ys : Nat -> ByteArray} {zs : Nat -> Bool}
theorem RefIn.frame {k : Nat} (h : RefIn w B c p D left safe ys zs) (hf : Fc c k w w') (ha : Agr w c c') (h3 : k ≠ 3) (h4 : k ≠ 4) (h5 : k ≠ 5) : RefIn w' B c' p D left safe ys zs := by
  obtain ⟨cb, hcb⟩ := h.lnb
  have hl : w'.heap[p.lb]? = w.heap[p.lb]? := hf.keep p.lb cb 3 hcb (.inl (by decide)) (by rw [h.cb]; omega)
  have gl : ∀ {i} (v : Value) (e : TypeId) (size n : Nat) (xs : List Value), w.ownsRow B e size v n xs -> (∀ g, v.ownBlock = some g -> c g = i) -> ∀ g, v.ownBlock = some g -> c' g = i := fun v e size n xs ho hc g hg => by rw [ha g (ho.lt g hg).2]; exact hc g hg
  refine ⟨(hf.keep p.r _ 48 h.dev (.inl (by decide)) (by rw [h.cr]; omega)).trans h.dev, fun i hi => hf.grid (h.tab i hi) (by decide) (by rw [h.cG i hi]; omega), h.inj, ⟨cb, hl.trans hcb⟩, fun i hi => ?_, hf.grid h.ybs (by decide) (by rw [h.cy]; omega), hf.grid h.zbs (by decide) (by rw [h.cz]; omega), hf.own h.wt (by decide) (fun g hg => by rw [h.cw g hg]; omega), hf.own h.lf (by decide) (fun g hg => by rw [h.cl g hg]; omega), fun j l hj => ?_, (ha _ (lt_of_block h.dev)).trans h.cr, fun i hi => (ha _ (h.tab i hi).lt).trans (h.cG i hi), (ha _ h.ybs.lt).trans h.cy, (ha _ h.zbs.lt).trans h.cz, gl _ _ _ _ _ h.wt h.cw, gl _ _ _ _ _ h.lf h.cl, (ha _ (lt_of_block hcb)).trans h.cb, h.lo.1, h.lo.2.1, h.lo.2.2.1, h.lo.2.2.2.1, Nat.le_trans h.lo.2.2.2.2 hf.size⟩
  . have := h.lns i hi
    unfold World.cell? at this ⊢
    simp only at this ⊢
    rw [hl]; exact this
  . obtain ⟨v, h1, h2, hc⟩ := h.lfs j l hj
    exact ⟨v, h1, hf.own h2 (by decide) (fun g hg => by rw [hc g hg]; omega), gl _ _ _ _ _ h2 hc⟩
theorem RefIn.below (h : RefIn w B c p D left safe ys zs) (hb : Below w.heap.size w w') : RefIn w' B c p D left safe ys zs := h.frame (k := 9) (Fc.of_below hb) (Agr.refl _ _) (by omega) (by omega) (by omega)
theorem RefIn.cells (h : RefIn w B c p D left safe ys zs) :
    w.cell? ⟨p.r, 4, none⟩ = some (.int .i64 (D.kp 0 : Nat)) /\ w.cell? ⟨p.r, 5, none⟩ = some (.int .i64 (D.kp 2 : Nat)) /\ w.cell? ⟨p.r, 6, none⟩ = some (.int .i64 (D.unit : Nat)) /\ w.cell? ⟨p.r, 7, none⟩ = some (.slice (some ⟨p.lb, 0, none⟩) D.nl p.cap) /\ w.cell? ⟨p.r, 8, none⟩ = some (.int .i64 (D.batch : Nat)) /\
    w.cell? ⟨p.r, 13, none⟩ = some (.slice (some ⟨p.yb, 0, none⟩) D.nl D.nl) /\ w.cell? ⟨p.r, 14, none⟩ = some (.slice (some ⟨p.zb, 0, none⟩) D.nl D.nl) /\ w.cell? ⟨p.r, 15, none⟩ = some p.wv /\ w.cell? ⟨p.r, 16, none⟩ = some (.int .i64 (D.uns : Nat)) /\ w.cell? ⟨p.r, 17, none⟩ = some p.lv /\ w.cell? ⟨p.r, 18, none⟩ = some (.int .i64 (safe : Nat)) /\ (∀ j, w.frozen? ⟨p.r, j, none⟩ = false) /\ p.r < w.heap.size :=
  ⟨(cell_of_row _ _ _ _ _ _ h.dev).trans rfl, (cell_of_row _ _ _ _ _ _ h.dev).trans rfl, (cell_of_row _ _ _ _ _ _ h.dev).trans rfl, (cell_of_row _ _ _ _ _ _ h.dev).trans rfl, (cell_of_row _ _ _ _ _ _ h.dev).trans rfl, (cell_of_row _ _ _ _ _ _ h.dev).trans rfl, (cell_of_row _ _ _ _ _ _ h.dev).trans rfl, (cell_of_row _ _ _ _ _ _ h.dev).trans rfl, (cell_of_row _ _ _ _ _ _ h.dev).trans rfl, (cell_of_row _ _ _ _ _ _ h.dev).trans rfl, (cell_of_row _ _ _ _ _ _ h.dev).trans rfl, fun _ => frozen_of_row _ _ _ _ _ h.dev, lt_of_block h.dev⟩
theorem RefIn.cellT (h : RefIn w B c p D left safe ys zs) {i : Nat} (hi : i < 4) : w.cell? ⟨p.r, 9 + i, none⟩ = some (.slice (some ⟨p.G i, 0, none⟩) (D.sz i) (D.sz i)) := by
  rcases (show i = 0 ∨ i = 1 ∨ i = 2 ∨ i = 3 by omega) with rfl | rfl | rfl | rfl <;> exact (cell_of_row _ _ _ _ _ _ h.dev).trans rfl
theorem RefIn.entT (h : RefIn w B c p D left safe ys zs) {i k : Nat} (hi : i < 4) (hk : k < D.sz i) : w.cell? ⟨p.G i, k, none⟩ = some (.int .i64 (D.ent i k)) := by
  have := (h.tab i hi).cell (i := k) (j := 0) hk (by omega)
  rw [Nat.mul_one, Nat.add_zero] at this
  exact this
end
end Go.Proofs.YtcpldcojckhapaaGreat

set_option maxRecDepth 100000
namespace Go.Proofs.YtcpldcojckhapaaGreat
open Go.RowKit
set_option maxRecDepth 100000 in
set_option maxHeartbeats 400000 in
theorem rword_any (s : ByteArray) (i : Int) (t : Nat) (w : World) (ht : i = t) (h : t + 1 < s.size) (hs : s.size <= 4194304) :
    Calls Tryz.prog 105 #[.string s, .int .i64 i] w fun e w' => e = .returned (.int .i64 (Pl.wd s t : Nat)) /\ ∃ n, w' = w.drewN n := by
  subst ht
  have gb := Pl.get_byt s
  have h0 := Pl.byt_lt s t
  have h1 := Pl.byt_lt s (t + 1)
  have hlt : t < s.size := by omega
  go_enter Tryz.func105, Tryz.ntmps105
  go_wp2
  go_quiet (fail)
  go_wp2
  go_ret
  exact ⟨rint (by unfold Pl.wd; omega), _, rfl⟩
theorem in_any (a b c : Nat) (w : World) :
    Calls Tryz.prog 163 #[.int .i64 (a : Nat), .int .i64 (b : Nat), .int .i64 (c : Nat)] w fun e w' => e = .returned (.bool (decide (b <= a /\ a <= c))) /\ w' = w := by
  by_cases h1 : b <= a
  . by_cases h2 : a <= c
    . go_enter Tryz.func163, Tryz.ntmps163
      go_wp2
      go_ret
      exact ⟨rbool (by simp [h1, h2]), rfl⟩
    . go_enter Tryz.func163, Tryz.ntmps163
      go_wp2
      go_ret
      exact ⟨rbool (by simp [h1, h2]), rfl⟩
  . go_enter Tryz.func163, Tryz.ntmps163
    go_wp2
    go_ret
    exact ⟨rbool (by simp [h1]), rfl⟩
theorem one_new (W : World) (g : Nat) (hg : g = W.heap.size) (x : Int) : ∀ j u, (encI x)[j]? = some u -> (W.alloc (.cells #[.int .i64 x] 3)).cell? ((⟨g, 0, none⟩ : Addr).add j) = some u := by
  subst hg
  intro j u hj
  match j, hj with
  | 0, hj => simp [encI] at hj; subst hj; simp [Addr.add]
theorem one_one (x : Int) : ∀ u ∈ encI x, u.oneCell' = true := by
  intro u hu; simp [encI] at hu; subst hu; rfl
set_option maxRecDepth 100000 in
set_option maxHeartbeats 2000000 in
theorem rwords_any (s : ByteArray) (t n : Nat) (w : World) (hn : (s.size - t) / 2 = n) (ht : t <= s.size) (hs : s.size <= 100000) :
    Calls Tryz.prog 165 #[.string s, .int .i64 (t : Nat)] w fun e w' => ∃ v, e = .returned v /\ w'.ownsRow w.heap.size 3 1 v n ((Pl.wordsL s t n).flatMap encI) /\ Below w.heap.size w w' := by
  obtain ⟨i0, hi, hz0, hz1, hz2⟩ := info_parts Tryz.infoEI
  have hn2 : t + 2 * n <= s.size := by omega
  have hn3 : s.size <= t + 2 * n + 1 := by omega
  clear hn
  go_enter Tryz.func165, Tryz.ntmps165
  go_wp2_with fail
  go_loopw [5, 6] (fun v i wr => ∃ q : Nat, q <= n /\ i = .int .i64 (t + 2 * q : Nat) /\ wr.ownsRow w.heap.size 3 1 v q ((Pl.wordsL s t q).flatMap encI) /\ Below w.heap.size w wr) (fun _ i _ => t + 2 * n - (intOf i).toNat)
  case atStart => exact ⟨0, Nat.zero_le _, rfl, World.ownsRow_nil _ _ _ _, Below.refl _ _⟩
  case round =>
    obtain ⟨q, hqn, rfl, hown, hb⟩ := hrel
    by_cases hlt : q < n
    . have l1 : t + 2 * q + 1 < s.size := by omega
      go_wp2_with fail
      refine (rword_any s _ (t + 2 * q) _ (by omega) l1 (by omega)).mono ?_
      rintro e w1 ⟨rfl, k, rfl⟩
      have hownW := ownsRow_heap (w' := wr.drewN k) rfl hown
      have hbW := below_drewN hb k
      obtain ⟨W, hW⟩ : ∃ W, W = wr.drewN k := ⟨_, rfl⟩
      rw [<- hW] at hownW hbW ⊢
      clear hW
      have hsz : w.heap.size <= W.heap.size := hbW.size
      go_wp2_with (at_builtin; refine wpList_append_own _ rfl (.tmp 15) (.tmp 19) 28 rfl w.heap.size 3 i0 (.int .i64 0) 1 8 Tryz.underlying28 hi hz0 hz1 hz2 rfl (by decide) u5 q _ rfl (hownW.alloc _) ⟨W.heap.size, 0, none⟩ 1 1 (encI (Pl.wd s (t + 2 * q) : Nat)) rfl rfl (one_new _ _ rfl _) (one_one _) (by unfold maxLen; omega) (by omega) (by simp; omega) ?_; intro v' w3 hown3 hgrow3 _)
      have hb3 : Below w.heap.size w w3 := (hbW.alloc hsz _).grown hgrow3 (by simp; omega) (fun g hg => (hownW.lt g hg).1)
      clear hgrow3 hownW hown hbW hb
      go_wp2
      go_roundw
      case rel => exact ⟨q + 1, by omega, by go_num, by rw [Pl.wordsL_succ, List.flatMap_append]; simpa using hown3, hb3⟩
      case measure => simp [intOf]; omega
    . obtain rfl : q = n := by omega
      have l1 : ¬ ((t : Int) + 2 * (q : Int) + 1 < s.size) := by omega
      go_wp2
      go_ret
      exact ⟨_, rfl, hown, hb⟩
set_option maxRecDepth 100000 in
set_option maxHeartbeats 2000000 in
theorem rbits_any (s : ByteArray) (t n : Nat) (w : World) (hn : t + (n + 7) / 8 <= s.size) (hs : s.size <= 100000) (hn' : n <= 100000) :
    Calls Tryz.prog 164 #[.string s, .int .i64 (t : Nat), .int .i64 (n : Nat)] w fun e w' => ∃ v, e = .returned v /\ w'.ownsRow w.heap.size 3 1 v n ((Pl.bitsL s t n).flatMap encI) /\ Below w.heap.size w w' := by
  obtain ⟨i0, hi, hz0, hz1, hz2⟩ := info_parts Tryz.infoEI
  have gb := Pl.get_byt s
  go_enter Tryz.func164, Tryz.ntmps164
  go_wp2_with fail
  go_loopw [7, 8] (fun v i wr => ∃ q : Nat, q <= n /\ i = .int .i64 (q : Nat) /\ wr.ownsRow w.heap.size 3 1 v q ((Pl.bitsL s t q).flatMap encI) /\ Below w.heap.size w wr) (fun _ i _ => n - (intOf i).toNat)
  case atStart => exact ⟨0, Nat.zero_le _, rfl, World.ownsRow_nil _ _ _ _, Below.refl _ _⟩
  case round =>
    obtain ⟨q, hqn, rfl, hown, hb⟩ := hrel
    by_cases hlt : q < n
    . have l1 : t + q / 8 < s.size := by omega
      have hb8 := Pl.byt_lt s (t + q / 8)
      have HO := hideF hown
      have HBb := hideF hb
      clear hown hb
      go_wp2_with fail
      go_loopw [9, 10] (fun x j wr' => ∃ k : Nat, k <= q % 8 /\ j = .int .i64 (k : Nat) /\ x = .int .i64 (Pl.byt s (t + q / 8) / 2 ^ k : Nat) /\ wr' = wr) (fun _ j _ => q % 8 - (intOf j).toNat)
      case atStart => exact ⟨0, Nat.zero_le _, rfl, by simp, rfl⟩
      case round =>
        obtain ⟨k, hk, rfl, rfl, rfl⟩ := hrel
        obtain ⟨Y, hY⟩ : ∃ Y, Y = Pl.byt s (t + q / 8) / 2 ^ k := ⟨_, rfl⟩
        have hYl : Y < 256 := by rw [hY]; exact Nat.lt_of_le_of_lt (Nat.div_le_self _ _) hb8
        rw [<- hY]
        have HY := hideF hY
        clear hY
        by_cases hkl : k < q % 8
        . go_wp2
          go_roundw
          case rel => exact ⟨k + 1, by omega, by go_num, vint (by rw [Nat.pow_succ, <- Nat.div_div_eq_div_mul, <- HY.out]; omega), trivial⟩
          case measure => simp [intOf]; omega
        . have hkq : k = q % 8 := by omega
          have hbit : Y % 2 = Pl.bit s t q := by unfold Pl.bit; rw [HY.out, hkq]
          have HBit := hideF hbit
          have HK := hideF hkq
          clear hbit hkq hk
          have hownW := HO.out
          have hbW := HBb.out
          have hsz : w.heap.size <= wr.heap.size := hbW.size
          go_wp2_with (at_builtin; refine wpList_append_own _ rfl (.tmp 31) (.tmp 34) 28 rfl w.heap.size 3 i0 (.int .i64 0) 1 8 Tryz.underlying28 hi hz0 hz1 hz2 rfl (by decide) u7 q _ rfl (hownW.alloc _) ⟨wr.heap.size, 0, none⟩ 1 1 (encI (Y % 2 : Nat)) rfl rfl (one_new _ _ rfl _) (one_one _) (by unfold maxLen; omega) (by omega) (by simp; omega) ?_; intro v' w3 hown3 hgrow3 _)
          have hb3 : Below w.heap.size w w3 := (hbW.alloc hsz _).grown hgrow3 (by simp; omega) (fun g hg => (hownW.lt g hg).1)
          clear hgrow3 hownW hbW
          go_wp2
          go_roundw
          case rel => exact ⟨q + 1, by omega, by go_num, by rw [Pl.bitsL_succ, List.flatMap_append, <- HBit.out]; simpa using hown3, hb3⟩
          case measure => simp [intOf]; omega
    . obtain rfl : q = n := by omega
      go_wp2
      go_ret
      exact ⟨_, rfl, hown, hb⟩
end Go.Proofs.YtcpldcojckhapaaGreat
