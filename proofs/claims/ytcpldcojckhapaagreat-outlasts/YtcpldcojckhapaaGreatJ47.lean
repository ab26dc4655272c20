/-
  Look, latchkeep.at and latchkeep.sameInts: what they answer.
  'append(buf, xs...)' where buf and xs are rows that the call owns, xs nil or not: one law for the walk.
-/
import Derived.Test.YtcpldcojckhapaaGreatJ33
import Derived.Test.YtcpldcojckhapaaGreatF1
import Derived.Laws.AppendOwnNone
import Derived.Laws.AppendOwn
set_option maxRecDepth 100000
namespace Go.Proofs.YtcpldcojckhapaaGreat
open Go.RowKit

/-- The values that are handed in lie there. -/
def Vals (w : World) (ad : Option Addr) (len : Nat) (vals : Nat → Int) : Prop :=
  ∀ j, j < len → ∃ g o, ad = some ⟨g, o, none⟩ ∧ g < w.heap.size ∧ w.cell? ⟨g, o + j, none⟩ = some (.int .i64 (vals j)) ∧ -9223372036854775808 ≤ vals j ∧ vals j ≤ 9223372036854775807
theorem encI_atL (l : List Int) : ∀ (j : Nat) (u : Value), (l.flatMap encI)[j]? = some u → ∃ x, l[j]? = some x ∧ u = .int .i64 x := by
  have e : l.flatMap encI = l.map fun x => Value.int .i64 x := by
    induction l with
    | nil => rfl
    | cons x l ih => rw [List.flatMap_cons, ih]; rfl
  intro j u h
  rw [e, List.getElem?_map] at h
  obtain ⟨x, hx, rfl⟩ := Option.map_eq_some_iff.1 h
  exact ⟨x, hx, rfl⟩

theorem not_nil28 (a : Addr) (n c : Nat) (w : World) : (binOp .eql 28 (.slice (some a) n c) (.slice none 0 0)).run Tryz.prog w = .ok (.bool false) w := by kernel_rfl
set_option maxRecDepth 100000 in
set_option maxHeartbeats 1000000 in
theorem cloneI_any (xs : List Int) (n g c : Nat) (w : World) (hl : xs.length = n) (hn : n ≤ 1000) (hg : g < w.heap.size) (hc : ∀ j x, xs[j]? = some x → w.cell? ⟨g, j, none⟩ = some (.int .i64 x)) :
    Calls Tryz.prog 54 #[.slice (some ⟨g, 0, none⟩) n c] w fun e w' => ∃ v, e = .returned v ∧ w'.ownsRow w.heap.size 3 1 v n (xs.flatMap encI) ∧ Below w.heap.size w w' := by
  obtain ⟨i0, hi, hz0, hz1, hz2⟩ := info_parts Tryz.infoEI
  have HC : Hid (∀ j u, (xs.flatMap encI)[j]? = some u → (w.alloc (.cells #[] 3)).cell? ((⟨g, 0, none⟩ : Addr).add j) = some u) := fun j u hj => by
    obtain ⟨x, hx, rfl⟩ := encI_atL xs j u hj
    have e : (⟨g, 0, none⟩ : Addr).add j = ⟨g, j, none⟩ := by by_cases h0 : j = 0 <;> simp [Addr.add, h0]
    rw [e, (bcell (bel_alloc (Below.refl _ w) _)).1 g j hg]
    exact hc j x hx
  have HLN : Hid ((xs.flatMap encI).length = n * 1) := by show _ = _; rw [encI_len, hl, Nat.mul_one]
  have HO : Hid ((w.alloc (.cells #[] 3)).ownsRow w.heap.size 3 1 (.slice (some ⟨w.heap.size, 0, none⟩) 0 0) 0 []) := World.ownsRow_made w #[] 0 (Nat.le_refl _) (by unfold maxLen; omega) rfl
  have hnn := not_nil28 ⟨g, 0, none⟩ n c
  clear hc hl
  go_enter Tryz.func54, Tryz.ntmps54
  go_wp2_with (at_builtin; refine wpList_append_own _ rfl (.tmp 5) (.tmp 6) 28 rfl w.heap.size 3 i0 _ 1 8 Tryz.underlying28 hi hz0 hz1 hz2 rfl (by decide) (.slice (some ⟨w.heap.size, 0, none⟩) 0 0) 0 [] rfl HO.out ⟨g, 0, none⟩ n c (xs.flatMap encI) rfl HLN.out HC.out (encI_one _) (by unfold maxLen; omega) (by omega) (by simp) ?_; intro v' w6 hown6 hgrow6 _; obtain ⟨a6, k6, rfl, _⟩ := own_view hown6)
  go_ret
  refine ⟨_, rfl, ?_, ?_⟩
  · rw [Nat.zero_add, List.nil_append] at hown6
    exact hown6
  · exact (bel_alloc (Below.refl _ w) _).trans ⟨hgrow6.os, hgrow6.tape, hgrow6.output, hgrow6.size, fun k hk => hgrow6.block k (by simp; omega) (fun e => by have := (HO.out.lt k e.symm).1; omega)⟩

set_option maxRecDepth 100000 in
set_option maxHeartbeats 1000000 in
theorem look_any (d L S t : Nat) (E : Nat → Nat) (wv : Value) (D : Dev) (xs : List Int) (w : World) (h : DevIn w d L S E wv D) (ht : t < 4) (hl : xs.length = D.sz t) (hn : D.sz t ≤ 1000) (hx : ∀ j x, xs[j]? = some x → D.ent t j = x) :
    Calls Tryz.prog 14 #[.pointer (some ⟨d, 0, none⟩), .int .i64 (t : Nat)] w fun e w' => ∃ v, e = .returned (.tuple #[v, .int .i64 0]) ∧ w'.ownsRow w.heap.size 3 1 v (D.sz t) (xs.flatMap encI) ∧ Below w.heap.size w w' := by
  have hce := h.cellE ht
  have hcell : Hid (∀ j x, xs[j]? = some x → w.cell? ⟨E t, j, none⟩ = some (.int .i64 x)) := fun j x hj => by
    have hjl : j < xs.length := (List.getElem?_eq_some_iff.1 hj).1
    have := (h.ent t ht).cell (i := j) (j := 0) (by omega) (by omega)
    rw [Nat.mul_one, Nat.add_zero] at this
    rw [this, hx j x hj]
  have hE := (h.ent t ht).lt
  have HL := hideF hl
  clear h hx hl
  go_enter Tryz.func14, Tryz.ntmps14
  go_wp2_with fail
  refine (within_yes _ _ _ _ (by omega) (by omega)).mono ?_
  rintro e w1 ⟨rfl, rfl⟩
  go_wp2_with fail
  refine (cloneI_any xs (D.sz t) (E t) (D.sz t) _ HL.out hn hE hcell.out).mono ?_
  rintro e w2 ⟨v, rfl, ho, hb⟩
  obtain ⟨a2, k2, rfl, _⟩ := own_view ho
  have HO := hideF ho
  have HB := hideF hb
  clear ho hb
  go_wp2
  refine bodyPost_ret (v := .tuple #[.slice a2 (D.sz t) k2, .int .i64 0]) (by simp [results, Tryz.results14, go_sem]) rfl ⟨_, rfl, HO.out, HB.out⟩

set_option maxRecDepth 100000 in
set_option maxHeartbeats 1000000 in
theorem at_any (i len cap : Nat) (ad : Option Addr) (vals : Nat → Int) (w : World) (h : Vals w ad len vals) (hl : len ≤ 9223372036854775807) (_hi : i ≤ 1000000) :
    Calls Tryz.prog 23 #[.slice ad len cap, .int .i64 (i : Nat)] w fun e w' => ∃ x, e = .returned (.int .i64 x) ∧ -9223372036854775808 ≤ x ∧ x ≤ 9223372036854775807 ∧ w' = w := by
  rcases Nat.eq_zero_or_pos len with rfl | hp
  · clear h
    go_enter Tryz.func23, Tryz.ntmps23
    go_wp2
    go_ret
    exact ⟨_, rfl, by decide, by decide, rfl⟩
  · have hm : i % len < len := Nat.mod_lt _ hp
    obtain ⟨g, o, rfl, hg, hc, h1, h2⟩ := h _ hm
    have hne : ((len : Int) == 0) = false := by rw [beq_eq_false_iff_ne]; omega
    have hre : Int.tmod (i : Int) (len : Int) = ((i % len : Nat) : Int) := rfl
    clear h
    go_enter Tryz.func23, Tryz.ntmps23
    go_wp2
    go_ret
    exact ⟨_, rfl, h1, h2, rfl⟩

set_option maxRecDepth 100000 in
set_option maxHeartbeats 1000000 in
theorem same_any (w : World) (n g1 g2 c1 c2 : Nat) (xs ys : List Int) (hx : xs.length = n) (hy : ys.length = n) (h1 : ∀ j x, xs[j]? = some x → w.cell? ⟨g1, j, none⟩ = some (.int .i64 x)) (h2 : ∀ j x, ys[j]? = some x → w.cell? ⟨g2, j, none⟩ = some (.int .i64 x)) (hl : n ≤ 1000000) :
    Calls Tryz.prog 27 #[.slice (some ⟨g1, 0, none⟩) n c1, .slice (some ⟨g2, 0, none⟩) n c2] w fun e w' => ∃ b, e = .returned (.bool b) ∧ (xs = ys → b = true) ∧ ∃ m, w' = w.drewN m := by
  have HX := hideF hx
  have HY := hideF hy
  have H1 := hideF h1
  have H2 := hideF h2
  clear hx hy h1 h2
  go_enter Tryz.func27, Tryz.ntmps27
  go_wp2_with fail
  go_loopw [5] (fun i wr => ∃ j m : Nat, j ≤ n ∧ i = .int .i64 (j : Nat) ∧ wr = w.drewN m) (fun i _ => n - (intOf i).toNat)
  case atStart => exact ⟨0, 0, Nat.zero_le _, rfl, rfl⟩
  case round =>
    obtain ⟨j, m, hj, rfl, rfl⟩ := hrel
    by_cases hjn : j < n
    · have hjx : j < xs.length := by rw [HX.out]; exact hjn
      have hjy : j < ys.length := by rw [HY.out]; exact hjn
      obtain ⟨x, hx⟩ : ∃ x, xs[j]? = some x := ⟨_, List.getElem?_eq_getElem hjx⟩
      obtain ⟨y, hy⟩ : ∃ y, ys[j]? = some y := ⟨_, List.getElem?_eq_getElem hjy⟩
      have d1 := H1.out j x hx
      have d2 := H2.out j y hy
      have HEX := hideF hx
      have HEY := hideF hy
      clear hx hy hjx hjy
      by_cases hxy : x = y
      · subst hxy
        go_wp2_with fail
        go_quiet (fail)
        go_wp2
        go_roundw
        case rel => exact ⟨j + 1, m + nq, by omega, by go_num, by simp⟩
        case measure => simp [intOf]; omega
      · have hxy' : (x == y) = false := by rw [beq_eq_false_iff_ne]; exact hxy
        go_wp2_with fail
        go_quiet (fail)
        go_wp2
        go_ret
        refine ⟨_, rfl, fun e => ?_, m + nq, by simp⟩
        exfalso
        have := HEX.out
        rw [e, HEY.out] at this
        exact hxy (Option.some.inj this).symm
    · go_wp2
      go_ret
      exact ⟨_, rfl, fun _ => rfl, _, rfl⟩
end Go.Proofs.YtcpldcojckhapaaGreat

set_option maxRecDepth 100000
namespace Go.Proofs.YtcpldcojckhapaaGreat
open Go

theorem wpList_append_any {P : Program} {w : World} {ops : Array Oper} {rest : List Oper} {o : Oper} {a : Act} {Q : Exit → Act → World → Prop} (hgd : o.guard = none) (s x : Operand) (t : TypeId)
    (ho : o.op = .call { callee := .builtin .append, args := #[s, x], argTypes := #[t, t] })
    (base base2 : Nat) (e : TypeId) (i : TypeInfo) (z : Value) (size bytes : Nat) (ht : P.underlying t = some (.slice e)) (hi : P.info? e = some i) (hz : i.zero = some z)
    (hsize : i.size = size) (hby : i.bytes = bytes) (hzs : z.cells.size = size) (hsz : 0 < size)
    (v : Value) (n : Nat) (xs : List Value) (hs : a.eval s = v) (hown : w.ownsRow base e size v n xs)
    (v2 : Value) (m : Nat) (news : List Value) (hx : a.eval x = v2) (hown2 : w.ownsRow base2 e size v2 m news) (h1 : ∀ u ∈ news, u.oneCell' = true)
    (h63 : n + m ≤ maxLen) (hbytes : (n + m) * bytes ≤ 140737488355328) (hbase : base ≤ w.heap.size)
    (h : ∀ v' w', w'.ownsRow base e size v' (n + m) (xs ++ news) → w.grownBy w' v.ownBlock → wpList P ops Q rest (a.put o.dst v') w') : wpList P ops Q (o :: rest) a w := by
  rcases hown2.2 with ⟨rfl, rfl⟩ | ⟨g, cap, cur, rfl, hb, hg, g1, g2, g3, g4⟩
  · have hn : news = [] := List.eq_nil_of_length_eq_zero (by rw [hown2.1]; simp)
    subst hn
    refine wpList_append_own_none hgd s x t ho base e i size ht hi v n xs hs hown hx (h v w ?_ ⟨rfl, rfl, rfl, Nat.le_refl _, fun _ _ _ => rfl⟩)
    rw [List.append_nil, Nat.add_zero]; exact hown
  · refine wpList_append_own w hgd s x t ho base e i z size bytes ht hi hz hsize hby hzs hsz v n xs hs hown ⟨g, 0, none⟩ m cap news hx hown2.1 (fun j u hj => ?_) h1 h63 hbytes hbase (fun v' w' h2 h3 _ => h v' w' h2 h3)
    have e0 : (⟨g, 0, none⟩ : Addr).add j = ⟨g, j, none⟩ := by by_cases h0 : j = 0 <;> simp [Addr.add, h0]
    have hj' : j < m * size := by rw [← hown2.1]; exact (List.getElem?_eq_some_iff.1 hj).1
    rw [e0, hown2.cellAt j hj', hj]
end Go.Proofs.YtcpldcojckhapaaGreat
