/-
  Look, latchkeep.at and latchkeep.sameInts: what they answer.
  'append(buf, xs...)' where buf and xs are rows that the call owns, xs nil or not: one law for the walk.
  Outlasts: what stands while it is walked.
-/
import Derived.Test.YtcpldcojckhapaaGreatJ18
import Derived.Test.YtcpldcojckhapaaGreatJ23
import Derived.Laws.AppendOwnNone
import Derived.Laws.AppendOwn
import Derived.Test.YtcpldcojckhapaaGreatJ24
import Derived.Deep.CutBlock
import Derived.Deep.RegionHeld3
set_option maxRecDepth 100000
namespace Go.Proofs.YtcpldcojckhapaaGreat
open Go.RowKit

/-- The values that are handed in lie there. -/
def Vals (w : World) (ad : Option Addr) (len : Nat) (vals : Nat → Int) : Prop :=
  ∀ j, j < len → ∃ g o, ad = some ⟨g, o, none⟩ ∧ g < w.heap.size ∧ w.cell? ⟨g, o + j, none⟩ = some (.int .i64 (vals j)) ∧ -9223372036854775808 ≤ vals j ∧ vals j ≤ 9223372036854775807
theorem encI_atL (l : List Int) : ∀ (j : Nat) (u : Value), (l.flatMap encI)[j]? = some u → ∃ x, l[j]? = some x ∧ u = .int .i64 x := by
  have e : l.flatMap encI = l.map fun x => Value.int .i64 x := by
    induction l with
    | nil => rfl
    | cons x l ih => rw [List.flatMap_cons, ih]; rfl
  intro j u h
  rw [e, List.getElem?_map] at h
  obtain ⟨x, hx, rfl⟩ := Option.map_eq_some_iff.1 h
  exact ⟨x, hx, rfl⟩

theorem not_nil28 (a : Addr) (n c : Nat) (w : World) : (binOp .eql 28 (.slice (some a) n c) (.slice none 0 0)).run Tryz.prog w = .ok (.bool false) w := by kernel_rfl
set_option maxRecDepth 100000 in
set_option maxHeartbeats 1000000 in
theorem cloneI_any (xs : List Int) (n g c : Nat) (w : World) (hl : xs.length = n) (hn : n ≤ 1000) (hg : g < w.heap.size) (hc : ∀ j x, xs[j]? = some x → w.cell? ⟨g, j, none⟩ = some (.int .i64 x)) :
    Calls Tryz.prog 54 #[.slice (some ⟨g, 0, none⟩) n c] w fun e w' => ∃ v, e = .returned v ∧ w'.ownsRow w.heap.size 3 1 v n (xs.flatMap encI) ∧ Below w.heap.size w w' := by
  obtain ⟨i0, hi, hz0, hz1, hz2⟩ := info_parts Tryz.infoEI
  have HC : Hid (∀ j u, (xs.flatMap encI)[j]? = some u → (w.alloc (.cells #[] 3)).cell? ((⟨g, 0, none⟩ : Addr).add j) = some u) := fun j u hj => by
    obtain ⟨x, hx, rfl⟩ := encI_atL xs j u hj
    have e : (⟨g, 0, none⟩ : Addr).add j = ⟨g, j, none⟩ := by by_cases h0 : j = 0 <;> simp [Addr.add, h0]
    rw [e, (bcell (bel_alloc (Below.refl _ w) _)).1 g j hg]
    exact hc j x hx
  have HLN : Hid ((xs.flatMap encI).length = n * 1) := by show _ = _; rw [encI_len, hl, Nat.mul_one]
  have HO : Hid ((w.alloc (.cells #[] 3)).ownsRow w.heap.size 3 1 (.slice (some ⟨w.heap.size, 0, none⟩) 0 0) 0 []) := World.ownsRow_made w #[] 0 (Nat.le_refl _) (by unfold maxLen; omega) rfl
  have hnn := not_nil28 ⟨g, 0, none⟩ n c
  clear hc hl
  go_enter Tryz.func54, Tryz.ntmps54
  go_wp2_with (at_builtin; refine wpList_append_own _ rfl (.tmp 5) (.tmp 6) 28 rfl w.heap.size 3 i0 _ 1 8 Tryz.underlying28 hi hz0 hz1 hz2 rfl (by decide) (.slice (some ⟨w.heap.size, 0, none⟩) 0 0) 0 [] rfl HO.out ⟨g, 0, none⟩ n c (xs.flatMap encI) rfl HLN.out HC.out (encI_one _) (by unfold maxLen; omega) (by omega) (by simp) ?_; intro v' w6 hown6 hgrow6 _; obtain ⟨a6, k6, rfl, _⟩ := own_view hown6)
  go_ret
  refine ⟨_, rfl, ?_, ?_⟩
  · rw [Nat.zero_add, List.nil_append] at hown6
    exact hown6
  · exact (bel_alloc (Below.refl _ w) _).trans ⟨hgrow6.os, hgrow6.tape, hgrow6.output, hgrow6.size, fun k hk => hgrow6.block k (by simp; omega) (fun e => by have := (HO.out.lt k e.symm).1; omega)⟩

set_option maxRecDepth 100000 in
set_option maxHeartbeats 1000000 in
theorem look_any (d L S t : Nat) (E : Nat → Nat) (wv : Value) (D : Dev) (xs : List Int) (w : World) (h : DevIn w d L S E wv D) (ht : t < 4) (hl : xs.length = D.sz t) (hn : D.sz t ≤ 1000) (hx : ∀ j x, xs[j]? = some x → D.ent t j = x) :
    Calls Tryz.prog 14 #[.pointer (some ⟨d, 0, none⟩), .int .i64 (t : Nat)] w fun e w' => ∃ v, e = .returned (.tuple #[v, .int .i64 0]) ∧ w'.ownsRow w.heap.size 3 1 v (D.sz t) (xs.flatMap encI) ∧ Below w.heap.size w w' := by
  have hce := h.cellE ht
  have hcell : Hid (∀ j x, xs[j]? = some x → w.cell? ⟨E t, j, none⟩ = some (.int .i64 x)) := fun j x hj => by
    have hjl : j < xs.length := (List.getElem?_eq_some_iff.1 hj).1
    have := (h.ent t ht).cell (i := j) (j := 0) (by omega) (by omega)
    rw [Nat.mul_one, Nat.add_zero] at this
    rw [this, hx j x hj]
  have hE := (h.ent t ht).lt
  have HL := hideF hl
  clear h hx hl
  go_enter Tryz.func14, Tryz.ntmps14
  go_wp2_with fail
  refine (within_yes _ _ _ _ (by omega) (by omega)).mono ?_
  rintro e w1 ⟨rfl, rfl⟩
  go_wp2_with fail
  refine (cloneI_any xs (D.sz t) (E t) (D.sz t) _ HL.out hn hE hcell.out).mono ?_
  rintro e w2 ⟨v, rfl, ho, hb⟩
  obtain ⟨a2, k2, rfl, _⟩ := own_view ho
  have HO := hideF ho
  have HB := hideF hb
  clear ho hb
  go_wp2
  refine bodyPost_ret (v := .tuple #[.slice a2 (D.sz t) k2, .int .i64 0]) (by simp [results, Tryz.results14, go_sem]) rfl ⟨_, rfl, HO.out, HB.out⟩

set_option maxRecDepth 100000 in
set_option maxHeartbeats 1000000 in
theorem at_any (i len cap : Nat) (ad : Option Addr) (vals : Nat → Int) (w : World) (h : Vals w ad len vals) (hl : len ≤ 9223372036854775807) (_hi : i ≤ 1000000) :
    Calls Tryz.prog 23 #[.slice ad len cap, .int .i64 (i : Nat)] w fun e w' => ∃ x, e = .returned (.int .i64 x) ∧ -9223372036854775808 ≤ x ∧ x ≤ 9223372036854775807 ∧ w' = w := by
  rcases Nat.eq_zero_or_pos len with rfl | hp
  · clear h
    go_enter Tryz.func23, Tryz.ntmps23
    go_wp2
    go_ret
    exact ⟨_, rfl, by decide, by decide, rfl⟩
  · have hm : i % len < len := Nat.mod_lt _ hp
    obtain ⟨g, o, rfl, hg, hc, h1, h2⟩ := h _ hm
    have hne : ((len : Int) == 0) = false := by rw [beq_eq_false_iff_ne]; omega
    have hre : Int.tmod (i : Int) (len : Int) = ((i % len : Nat) : Int) := rfl
    clear h
    go_enter Tryz.func23, Tryz.ntmps23
    go_wp2
    go_ret
    exact ⟨_, rfl, h1, h2, rfl⟩

set_option maxRecDepth 100000 in
set_option maxHeartbeats 1000000 in
theorem same_any (w : World) (n g1 g2 c1 c2 : Nat) (xs ys : List Int) (hx : xs.length = n) (hy : ys.length = n) (h1 : ∀ j x, xs[j]? = some x → w.cell? ⟨g1, j, none⟩ = some (.int .i64 x)) (h2 : ∀ j x, ys[j]? = some x → w.cell? ⟨g2, j, none⟩ = some (.int .i64 x)) (hl : n ≤ 1000000) :
    Calls Tryz.prog 27 #[.slice (some ⟨g1, 0, none⟩) n c1, .slice (some ⟨g2, 0, none⟩) n c2] w fun e w' => ∃ b, e = .returned (.bool b) ∧ (xs = ys → b = true) ∧ ∃ m, w' = w.drewN m := by
  have HX := hideF hx
  have HY := hideF hy
  have H1 := hideF h1
  have H2 := hideF h2
  clear hx hy h1 h2
  go_enter Tryz.func27, Tryz.ntmps27
  go_wp2_with fail
  go_loopw [5] (fun i wr => ∃ j m : Nat, j ≤ n ∧ i = .int .i64 (j : Nat) ∧ wr = w.drewN m) (fun i _ => n - (intOf i).toNat)
  case atStart => exact ⟨0, 0, Nat.zero_le _, rfl, rfl⟩
  case round =>
    obtain ⟨j, m, hj, rfl, rfl⟩ := hrel
    by_cases hjn : j < n
    · have hjx : j < xs.length := by rw [HX.out]; exact hjn
      have hjy : j < ys.length := by rw [HY.out]; exact hjn
      obtain ⟨x, hx⟩ : ∃ x, xs[j]? = some x := ⟨_, List.getElem?_eq_getElem hjx⟩
      obtain ⟨y, hy⟩ : ∃ y, ys[j]? = some y := ⟨_, List.getElem?_eq_getElem hjy⟩
      have d1 := H1.out j x hx
      have d2 := H2.out j y hy
      have HEX := hideF hx
      have HEY := hideF hy
      clear hx hy hjx hjy
      by_cases hxy : x = y
      · subst hxy
        go_wp2_with fail
        go_quiet (fail)
        go_wp2
        go_roundw
        case rel => exact ⟨j + 1, m + nq, by omega, by go_num, by simp⟩
        case measure => simp [intOf]; omega
      · have hxy' : (x == y) = false := by rw [beq_eq_false_iff_ne]; exact hxy
        go_wp2_with fail
        go_quiet (fail)
        go_wp2
        go_ret
        refine ⟨_, rfl, fun e => ?_, m + nq, by simp⟩
        exfalso
        have := HEX.out
        rw [e, HEY.out] at this
        exact hxy (Option.some.inj this).symm
    · go_wp2
      go_ret
      exact ⟨_, rfl, fun _ => rfl, _, rfl⟩
end Go.Proofs.YtcpldcojckhapaaGreat

set_option maxRecDepth 100000
namespace Go.Proofs.YtcpldcojckhapaaGreat
open Go

theorem wpList_append_any {P : Program} {w : World} {ops : Array Oper} {rest : List Oper} {o : Oper} {a : Act} {Q : Exit → Act → World → Prop} (hgd : o.guard = none) (s x : Operand) (t : TypeId)
    (ho : o.op = .call { callee := .builtin .append, args := #[s, x], argTypes := #[t, t] })
    (base base2 : Nat) (e : TypeId) (i : TypeInfo) (z : Value) (size bytes : Nat) (ht : P.underlying t = some (.slice e)) (hi : P.info? e = some i) (hz : i.zero = some z)
    (hsize : i.size = size) (hby : i.bytes = bytes) (hzs : z.cells.size = size) (hsz : 0 < size)
    (v : Value) (n : Nat) (xs : List Value) (hs : a.eval s = v) (hown : w.ownsRow base e size v n xs)
    (v2 : Value) (m : Nat) (news : List Value) (hx : a.eval x = v2) (hown2 : w.ownsRow base2 e size v2 m news) (h1 : ∀ u ∈ news, u.oneCell' = true)
    (h63 : n + m ≤ maxLen) (hbytes : (n + m) * bytes ≤ 140737488355328) (hbase : base ≤ w.heap.size)
    (h : ∀ v' w', w'.ownsRow base e size v' (n + m) (xs ++ news) → w.grownBy w' v.ownBlock → wpList P ops Q rest (a.put o.dst v') w') : wpList P ops Q (o :: rest) a w := by
  rcases hown2.2 with ⟨rfl, rfl⟩ | ⟨g, cap, cur, rfl, hb, hg, g1, g2, g3, g4⟩
  · have hn : news = [] := List.eq_nil_of_length_eq_zero (by rw [hown2.1]; simp)
    subst hn
    refine wpList_append_own_none hgd s x t ho base e i size ht hi v n xs hs hown hx (h v w ?_ ⟨rfl, rfl, rfl, Nat.le_refl _, fun _ _ _ => rfl⟩)
    rw [List.append_nil, Nat.add_zero]; exact hown
  · refine wpList_append_own w hgd s x t ho base e i z size bytes ht hi hz hsize hby hzs hsz v n xs hs hown ⟨g, 0, none⟩ m cap news hx hown2.1 (fun j u hj => ?_) h1 h63 hbytes hbase (fun v' w' h2 h3 _ => h v' w' h2 h3)
    have e0 : (⟨g, 0, none⟩ : Addr).add j = ⟨g, j, none⟩ := by by_cases h0 : j = 0 <;> simp [Addr.add, h0]
    have hj' : j < m * size := by rw [← hown2.1]; exact (List.getElem?_eq_some_iff.1 hj).1
    rw [e0, hown2.cellAt j hj', hj]
end Go.Proofs.YtcpldcojckhapaaGreat

set_option maxRecDepth 100000
set_option linter.unusedVariables false
namespace Go.Proofs.YtcpldcojckhapaaGreat
open Go.RowKit

theorem pick_nat (c : Int) (n : Nat) (h1 : -9223372036854775808 ≤ c) (h2 : c ≤ 9223372036854775807) (h3 : 0 < n) (h4 : n ≤ 65536) : ∃ x : Nat, x < n ∧ ∀ w : World, Calls Tryz.prog 18 #[.int .i64 c, .int .i64 (n : Nat)] w fun e w' => e = .returned (.int .i64 (x : Nat)) ∧ w' = w := by
  refine ⟨(pk c n).toNat, ?_, fun w => (pick_any c n w h1 h2 (by omega) (by omega)).mono fun e w' h => ?_⟩
  · have := pk_lt c n (by omega); have := pk_nonneg c n (by omega); omega
  · have := pk_nonneg c n (by omega)
    rw [Int.toNat_of_nonneg this]
    exact h
theorem FtT.bel {n B : Nat} {T : TypeId → Bool} {a w w' : World} (h : FtT B T w w') (hb : Below n a w) (h1 : n ≤ B) (h2 : n ≤ w.heap.size) : Below n a w' :=
  hb.trans ⟨h.os, h.tape, h.output, h.size, fun k hk => h.low k (by omega) (by omega)⟩
theorem own_ft {B C n : Nat} {v : Value} {xs : List Value} {w w' : World} (h : w.ownsRow C 77 4 v n xs) (hf : FtT B devT w w') : w'.ownsRow C 77 4 v n xs :=
  own_same h (fun g hg => by obtain ⟨cg, hcg⟩ := own_block h g hg; exact hf.keep g cg 77 hcg rfl)
/-- A disk of two sectors lies at block g. -/
def DiskIn (w : World) (g : Nat) (f : Nat → ByteArray) : Prop := ∃ cur : Array Value, w.heap[g]? = some (.cells cur 9 (0, 0)) ∧ cur[0]? = some (.string (f 0)) ∧ cur[1]? = some (.string (f 1))
theorem DiskIn.ft {w w' : World} {B g : Nat} {T : TypeId → Bool} {f : Nat → ByteArray} (h : DiskIn w g f) (hf : FtT B T w w') (hT : T 9 = false) : DiskIn w' g f := by
  obtain ⟨cur, h1, h2⟩ := h
  exact ⟨cur, (hf.keep g cur 9 h1 hT).trans h1, h2⟩
theorem DiskIn.bel {w w' : World} {g : Nat} {f : Nat → ByteArray} (h : DiskIn w g f) (hb : Below w.heap.size w w') : DiskIn w' g f := by
  obtain ⟨cur, h1, h2⟩ := h
  exact ⟨cur, (hb.block g (lt_of_block h1)).trans h1, h2⟩
theorem DiskIn.lt {w : World} {g : Nat} {f : Nat → ByteArray} (h : DiskIn w g f) : g < w.heap.size := by
  obtain ⟨cur, h1, h2⟩ := h
  exact lt_of_block h1
/-- What stands while holders are written. -/
structure OIn (W w : World) (d L S : Nat) (E : Nat → Nat) (gd B b : Nat) (ws : Nat → Nat) (q : Nat) (a : Value) (A : List (Int × Int × Int × ByteArray)) (t lat st : Nat) (wv : Value) : Prop where
  tq : t ≤ q
  qb : q - t < b
  hist : Hist ws A t lat st
  acts : w.ownsRow B 77 4 a A.length (A.flatMap encA)
  dev : DevIn w d L S E wv (oD B b ws q t lat st)
  disk : DiskIn w gd (fun _ => blank64)
  bel : Below B W w
theorem OIn.then_below {W w w' : World} {d L S : Nat} {E : Nat → Nat} {gd B b : Nat} {ws : Nat → Nat} {q : Nat} {a : Value} {A : List (Int × Int × Int × ByteArray)} {t lat st : Nat} {wv : Value} (h : OIn W w d L S E gd B b ws q a A t lat st wv) (hB : B = W.heap.size) (hb : Below w.heap.size w w') : OIn W w' d L S E gd B b ws q a A t lat st wv :=
  ⟨h.tq, h.qb, h.hist, ownsRow_below h.acts hb, h.dev.belowQ hb, h.disk.bel hb, by subst hB; exact bel_then h.bel hb⟩
theorem OIn.fed {W w w1 w2 : World} {d L S : Nat} {E : Nat → Nat} {gd B b : Nat} {ws : Nat → Nat} {q q' : Nat} {a v : Value} {A A' : List (Int × Int × Int × ByteArray)} {t lat st t' lat' st' : Nat} {wv wv' : Value} (h : OIn W w d L S E gd B b ws q a A t lat st wv) (hB : B = W.heap.size)
    (hF : FtT B devT w w1) (hD : DevIn w1 d L S E wv' (oD B b ws q' t' lat' st')) (hH : Hist ws (A ++ A') t' lat' st') (ht : t' ≤ q') (hb : q' - t' < b) (ho : w2.ownsRow B 77 4 v (A.length + A'.length) (A.flatMap encA ++ A'.flatMap encA)) (hg : w1.grownBy w2 a.ownBlock) :
    OIn W w2 d L S E gd B b ws q' v (A ++ A') t' lat' st' wv' := by
  have hs := h.bel.size
  have ha := own_ft h.acts hF
  have hG := (FtT.refl (B := 0) (fun t => t == 77) w1).grown hg (fun k hk => ⟨Nat.zero_le _, own_block ha k hk⟩) rfl
  refine ⟨ht, hb, hH, ?_, hD.keep hG rfl rfl rfl rfl rfl, (h.disk.ft hF rfl).ft hG rfl, ?_⟩
  · rw [List.flatMap_append, List.length_append]; exact ho
  · have h1 : Below B W w1 := hF.bel h.bel (Nat.le_refl _) (by omega)
    exact h1.trans ⟨hg.os, hg.tape, hg.output, hg.size, fun k hk => hg.block k (by have := h1.size; omega) (fun e => by have := (ha.lt k e.symm).1; omega)⟩
theorem cfg_o (w : World) (b : Nat) : ∃ W, W = (w.alloc (.cells #[.int .i64 0] 3)).alloc (.cells #[.int .i64 0, .int .i64 0, .int .i64 8, .int .i64 0, .int .i64 0, .int .i64 8, .int .i64 1, .slice (some ⟨w.heap.size, 0, none⟩) 1 1, .int .i64 (b : Nat)] 39) ∧ W.heap.size = w.heap.size + 2 ∧ Below w.heap.size w W ∧ W.heap[w.heap.size]? = some (.cells #[.int .i64 0] 3 (0, 0)) ∧
    W.heap[w.heap.size + 1]? = some (.cells #[.int .i64 0, .int .i64 0, .int .i64 8, .int .i64 0, .int .i64 0, .int .i64 8, .int .i64 1, .slice (some ⟨w.heap.size, 0, none⟩) 1 1, .int .i64 (b : Nat)] 39 (0, 0)) := by
  refine ⟨_, rfl, by simp, bel_alloc (bel_alloc (Below.refl _ _) _) _, ?_, ?_⟩
  · rw [heap_alloc_old _ _ (by simp)]; exact heap_alloc_new w _
  · have := heap_alloc_new (w.alloc (.cells #[.int .i64 0] 3)) (.cells #[.int .i64 0, .int .i64 0, .int .i64 8, .int .i64 0, .int .i64 0, .int .i64 8, .int .i64 1, .slice (some ⟨w.heap.size, 0, none⟩) 1 1, .int .i64 (b : Nat)] 39)
    rwa [show (w.alloc (.cells #[.int .i64 0] 3)).heap.size = w.heap.size + 1 by simp] at this
theorem acts_at {w : World} {B k : Nat} {a : Option Addr} {l : List (Int × Int × Int × ByteArray)} (h : w.ownsRow B 77 4 (.slice a l.length k) l.length (l.flatMap encA)) (q : Nat) (x : Int × Int × Int × ByteArray) (hx : l[q]? = some x) :
    ∃ g, a = some ⟨g, 0, none⟩ ∧ g < w.heap.size ∧ w.cell? ⟨g, q * 4, none⟩ = some (.int .u8 x.1) ∧ w.cell? ⟨g, q * 4 + 1, none⟩ = some (.int .i64 x.2.1) ∧ w.cell? ⟨g, q * 4 + 2, none⟩ = some (.int .i64 x.2.2.1) ∧ w.cell? ⟨g, q * 4 + 3, none⟩ = some (.string x.2.2.2) := by
  obtain ⟨a', c', he, hat⟩ := own_view h
  obtain ⟨rfl, rfl⟩ : a' = a ∧ c' = k := by simpa using he.symm
  have hlt : q < l.length := (List.getElem?_eq_some_iff.1 hx).1
  have hxe : l[q] = x := by rw [List.getElem?_eq_getElem hlt] at hx; exact Option.some.inj hx
  obtain ⟨g, rfl, hg, hc⟩ := hat q hlt
  refine ⟨g, rfl, hg, ?_, ?_, ?_, ?_⟩
  · have := flat_gen encA 4 (fun _ => rfl) l q 0 hlt (by omega)
    rw [Nat.add_zero] at this
    rw [hc _ (by omega), this, hxe]; rfl
  · have := flat_gen encA 4 (fun _ => rfl) l q 1 hlt (by omega)
    rw [hc _ (by omega), this, hxe]; rfl
  · have := flat_gen encA 4 (fun _ => rfl) l q 2 hlt (by omega)
    rw [hc _ (by omega), this, hxe]; rfl
  · have := flat_gen encA 4 (fun _ => rfl) l q 3 hlt (by omega)
    rw [hc _ (by omega), this, hxe]; rfl
/-- What stands while the acts take place. -/
structure PIn (W w : World) (B gd : Nat) (a : Value) (A : List (Int × Int × Int × ByteArray)) (s : Ds) (v : Value) : Prop where
  acts : w.ownsRow B 77 4 a A.length (A.flatMap encA)
  wet : (s.wet = [] ∧ v = .slice none 0 0) ∨ ∃ x, s.wet = [x] ∧ w.ownsRow B 77 4 v 1 (encA x)
  disk : DiskIn w gd s.dk
  bel : Below B W w
theorem PIn.then_below {W w w' : World} {B gd : Nat} {a v : Value} {A : List (Int × Int × Int × ByteArray)} {s : Ds} (h : PIn W w B gd a A s v) (hB : B = W.heap.size) (hb : Below w.heap.size w w') : PIn W w' B gd a A s v :=
  ⟨ownsRow_below h.acts hb, h.wet.imp id fun ⟨x, h1, h2⟩ => ⟨x, h1, ownsRow_below h2 hb⟩, h.disk.bel hb, by subst hB; exact bel_then h.bel hb⟩
theorem bel_grown0 {w w' : World} (h : w.grownBy w' (Value.slice none 0 0).ownBlock) : Below w.heap.size w w' :=
  ⟨h.os, h.tape, h.output, h.size, fun k hk => h.block k hk (by simp [Value.ownBlock])⟩
/-- A Write. -/
theorem PIn.wrote {W w w' : World} {B gd : Nat} {a v v' : Value} {A : List (Int × Int × Int × ByteArray)} {s : Ds} {x : Int × Int × Int × ByteArray} (h : PIn W w B gd a A s v) (hB : B = W.heap.size) (hs : s.wet = []) (hx : x.1 = 0) {C : Nat} (hC : B ≤ C) (hg : w.grownBy w' (Value.slice none 0 0).ownBlock) (ho : w'.ownsRow C 77 4 v' 1 (encA x)) : PIn W w' B gd a A (stepD s x) v' := by
  have hsz := h.bel.size
  have hb := bel_grown0 hg
  have e : stepD s x = { s with wet := [x] } := by unfold stepD; rw [if_pos hx, hs]; rfl
  rw [e]
  exact ⟨ownsRow_below h.acts hb, .inr ⟨x, rfl, own_base ho hC⟩, h.disk.bel hb, by subst hB; exact bel_then h.bel hb⟩
/-- A Send. -/
theorem PIn.told {W w : World} {B gd : Nat} {a v : Value} {A : List (Int × Int × Int × ByteArray)} {s : Ds} {x : Int × Int × Int × ByteArray} (h : PIn W w B gd a A s v) (hx : x.1 = 2) : PIn W w B gd a A (stepD s x) v := by
  have e : stepD s x = { s with told := s.told + 1 } := by unfold stepD; rw [if_neg (by omega), if_neg (by omega)]
  rw [e]
  exact ⟨h.acts, h.wet, h.disk, h.bel⟩
/-- A sector is laid. -/
theorem PIn.laid {W w : World} {B gd q : Nat} {a v : Value} {A : List (Int × Int × Int × ByteArray)} {s : Ds} (h : PIn W w B gd a A s v) (hB : B ≤ gd) (hq : q ≤ 1) (dat : ByteArray) (k l : Int) :
    (w.setCell ⟨gd, q, none⟩ (.string dat)).ownsRow B 77 4 a A.length (A.flatMap encA) ∧ DiskIn (w.setCell ⟨gd, q, none⟩ (.string dat)) gd (putD s.dk (k, (q : Int), l, dat)) ∧ Below B W (w.setCell ⟨gd, q, none⟩ (.string dat)) := by
  obtain ⟨cur, h1, h2, h3⟩ := h.disk
  refine ⟨own_same h.acts (fun g hg => ?_), ⟨cur.setIfInBounds q (.string dat), heap_setCell_same w gd q _ 9 _ h1, ?_, ?_⟩, h.bel.trans ⟨rfl, rfl, rfl, by simp, fun k hk => heap_setCell_other w _ _ _ (by show k ≠ gd; omega)⟩⟩
  · obtain ⟨cg, hcg⟩ := own_block h.acts g hg
    exact heap_setCell_other w _ _ _ (ne_of_types hcg h1 (by decide))
  · rw [putD_at, Array.getElem?_setIfInBounds]
    by_cases e : q = 0
    · subst e
      rw [if_pos rfl, if_pos rfl, if_pos (by have := (Array.getElem?_eq_some_iff.1 h2).1; exact this)]
    · rw [if_neg e, if_neg (fun e' => e e'.symm)]; exact h2
  · rw [putD_at, Array.getElem?_setIfInBounds]
    by_cases e : q = 1
    · subst e
      rw [if_pos rfl, if_pos rfl, if_pos (by have := (Array.getElem?_eq_some_iff.1 h3).1; exact this)]
    · rw [if_neg e, if_neg (fun e' => e e'.symm)]; exact h3
/-- A Sync. -/
theorem sync_none {s : Ds} {x : Int × Int × Int × ByteArray} (hx : x.1 = 1) (hs : s.wet = []) : stepD s x = { s with wet := [] } := by
  unfold stepD; rw [if_neg (by omega), if_pos hx, hs]; rfl
theorem sync_one {s : Ds} {x y : Int × Int × Int × ByteArray} (hx : x.1 = 1) (hs : s.wet = [y]) : stepD s x = ⟨putD s.dk y, [], s.told⟩ := by
  unfold stepD; rw [if_neg (by omega), if_pos hx, hs]; rfl
theorem DiskIn.cells {w : World} {g : Nat} {f : Nat → ByteArray} (h : DiskIn w g f) : w.cell? ⟨g, 0, none⟩ = some (.string (f 0)) ∧ w.cell? ⟨g, 1, none⟩ = some (.string (f 1)) ∧ (∀ q, q ≤ 1 → w.cell? ⟨g, q, none⟩ = some (.string (f q))) ∧ ∀ o, w.frozen? ⟨g, o, none⟩ = false := by
  obtain ⟨cur, h1, h2, h3⟩ := h
  have a0 : w.cell? ⟨g, 0, none⟩ = some (.string (f 0)) := by rw [cell_of_row _ _ _ _ _ _ h1]; exact h2
  have a1 : w.cell? ⟨g, 1, none⟩ = some (.string (f 1)) := by rw [cell_of_row _ _ _ _ _ _ h1]; exact h3
  refine ⟨a0, a1, fun q hq => ?_, fun o => frozen_of_row _ _ _ _ _ h1⟩
  rcases (show q = 0 ∨ q = 1 by omega) with rfl | rfl
  · exact a0
  · exact a1
/-- The law's own list of what was written. -/
def leftC (ws : Nat → Nat) (k : Nat) : Array Value := ((left ws k).map fun x => Value.int .i64 ((x : Nat) : Int)).toArray
theorem leftC_next (ws : Nat → Nat) (k : Nat) : (leftC ws k).setIfInBounds (ws k) (.int .i64 ((k : Int) + 1)) = leftC ws (k + 1) := by
  apply Array.toList_inj.1
  unfold leftC
  rw [show left ws (k + 1) = (left ws k).set (ws k) (k + 1) from rfl, List.map_set]
  simp
theorem leftC_at (ws : Nat → Nat) (k j : Nat) (x : Int) (h : ((left ws k).map fun x => ((x : Nat) : Int))[j]? = some x) : (leftC ws k)[j]? = some (.int .i64 x) := by
  unfold leftC
  rw [List.getElem?_toArray, List.getElem?_map]
  rw [List.getElem?_map] at h
  obtain ⟨y, hy, rfl⟩ := Option.map_eq_some_iff.1 h
  rw [hy]; rfl
theorem leftC_old (ws : Nat → Nat) (k j : Nat) (hj : j < 8) : ∃ v, (leftC ws k)[j]? = some v := by
  have : j < (leftC ws k).size := by simp [leftC, left_len, hj]
  exact ⟨_, Array.getElem?_eq_getElem this⟩
/-- What stands while it is compared. -/
structure CIn (X w : World) (gq : Nat) (ws : Nat → Nat) (k : Nat) : Prop where
  row : w.heap[gq]? = some (.cells (leftC ws k) 3 (0, 0))
  chg : Chg1 gq X w
theorem CIn.drewN {X w : World} {gq : Nat} {ws : Nat → Nat} {k : Nat} (h : CIn X w gq ws k) (n : Nat) : CIn X (w.drewN n) gq ws k := ⟨h.row, h.chg.drewN n⟩
theorem CIn.set {X w : World} {gq : Nat} {ws : Nat → Nat} {k : Nat} (h : CIn X w gq ws k) : CIn X (w.setCell ⟨gq, ws k, none⟩ (.int .i64 ((k : Int) + 1))) gq ws (k + 1) :=
  ⟨by rw [heap_setCell_same w gq (ws k) _ 3 _ h.row, leftC_next], h.chg.setCell _ _⟩
end Go.Proofs.YtcpldcojckhapaaGreat
