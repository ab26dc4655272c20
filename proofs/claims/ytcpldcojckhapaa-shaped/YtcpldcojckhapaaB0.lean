/-
  General steps and laws for the walks of this seat; no function of the program.
-/
import Derived.WalkKit
import Derived.WalkSpells
import Derived.WalkLawsBesides
import Derived.Below
import Derived.Deep.RegionWith
import Derived.Deep.RegionLaw
import Derived.Deep.QuietTactic
import Derived.BigQuiet
import Derived.BigRegion
import Derived.Deep.DeepMust
import Derived.Laws.IdiomStrings
import Derived.Laws.AppendOwnNone
import Derived.Laws.BitsAllLaws
import Derived.Deep.Cut
import Derived.Deep.CutRange
import Derived.Test.YtcpldcojckhapaaRows
namespace Go.Proofs.Ytcpldcojckhapaa
open Go.RowKit

theorem vint {k : IntKind} {a b : Int} (h : a = b) : Value.int k a = Value.int k b := by rw [h]
theorem rint {k : IntKind} {a b : Int} (h : a = b) : Ending.returned (.int k a) = .returned (.int k b) := by rw [h]
theorem bcell {W w1 : World} (hb : Below W.heap.size W w1) : (∀ b o, b < W.heap.size → w1.cell? ⟨b, o, none⟩ = W.cell? ⟨b, o, none⟩) ∧ (∀ b o, b < W.heap.size → w1.frozen? ⟨b, o, none⟩ = W.frozen? ⟨b, o, none⟩) :=
  ⟨fun b o h => hb.cell (p := ⟨b, o, none⟩) h, fun b o h => hb.frozen (p := ⟨b, o, none⟩) h⟩
theorem rbool {a b : Bool} (h : a = b) : Ending.returned (.bool a) = .returned (.bool b) := by rw [h]
/-- What is owned stays owned where nothing that was there has turned. -/
theorem ownsRow_below {w w' : World} {base : Nat} {e : TypeId} {size : Nat} {v : Value} {n : Nat} {xs : List Value} (h : w.ownsRow base e size v n xs) (hb : Below w.heap.size w w') : w'.ownsRow base e size v n xs := by
  refine ⟨h.1, ?_⟩
  rcases h.2 with h0 | ⟨g, cap, cur, hv, hg, hh, h1, h2, h3, h4⟩
  · exact .inl h0
  · exact .inr ⟨g, cap, cur, hv, hg, (hb.block g (lt_of_block hh)).trans hh, h1, h2, h3, h4⟩
theorem cell_three_new (w : World) (a b c : Value) (t : TypeId) : ∀ j u, [a, b, c][j]? = some u → (w.alloc (.cells #[a, b, c] t)).cell? ((⟨w.heap.size, 0, none⟩ : Addr).add j) = some u := by
  intro j u hj
  match j, hj with
  | 0, hj => simp at hj; subst hj; simp [Addr.add]
  | 1, hj => simp at hj; subst hj; simp [Addr.add]
  | 2, hj => simp at hj; subst hj; simp [Addr.add]
theorem step_call {P : Program} {ops : Array Oper} {o : Oper} {a : Act} {w : World} {K : Act → World → Prop} {Q : Exit → Act → World → Prop} {E : Prop}
    (hg : o.guard = none) (f : FuncId) (xs : Array Operand) (ts : Array TypeId) (hop : o.op = Op.call { callee := Callee.value (Operand.func f), args := xs, argTypes := ts })
    (vs : Array Value) (hx : xs.map a.eval = vs) (hrun : (callFunc f vs).run P w = .ok (.enter f vs) w)
    (R : Value → World → Prop) (hc : Calls P f vs w fun e w' => ∃ v, e = .returned v ∧ R v w')
    (hK : ∀ v w', R v w' → K (a.put o.dst v) w') :
    if Region.wanted o (yielded ops a.tmps) = true then Oper.wp P o a w K Q else E := by
  have hw : Region.wanted o (yielded ops a.tmps) = true := by simp [Region.wanted, hg]
  rw [if_pos hw]
  unfold Oper.wp
  have : (execOp a.eval o).run P w = .ok (.enter f vs) w := by
    simp [execOp, hop, resolve, invoke, hx, hrun, Act.eval, Deferred.ofValue]
  rw [this, Oper.upon_enter]
  refine hc.mono ?_
  rintro e w' ⟨v, rfl, hr⟩
  exact hK v w' hr
theorem step_append_own {P : Program} {ops : Array Oper} {o : Oper} {a : Act} {w : World} {K : Act → World → Prop} {Q : Exit → Act → World → Prop} {E : Prop}
    (hg : o.guard = none) (s x : Operand) (t : TypeId) (hop : o.op = Op.call { callee := Callee.builtin Builtin.append, args := #[s, x], argTypes := #[t, t] })
    (base : Nat) (e : TypeId) (i : TypeInfo) (z : Value) (size bytes : Nat) (h1 : P.underlying t = some (.slice e)) (h2 : P.info? e = some i) (h3 : i.zero = some z) (h4 : i.size = size) (h5 : i.bytes = bytes) (h6 : z.cells.size = size) (h7 : 0 < size)
    (v : Value) (n : Nat) (xs : List Value) (hs : a.eval s = v) (hown : w.ownsRow base e size v n xs)
    (ad : Addr) (m c : Nat) (news : List Value) (hx : a.eval x = .slice (some ad) m c) (hn : news.length = m * size) (hc : ∀ j u, news[j]? = some u → w.cell? (ad.add j) = some u) (h1c : ∀ u ∈ news, u.oneCell' = true)
    (b1 : n + m ≤ maxLen) (b2 : (n + m) * bytes ≤ 140737488355328) (hbase : base ≤ w.heap.size)
    (hK : ∀ v' w', w'.ownsRow base e size v' (n + m) (xs ++ news) → w.grownBy w' v.ownBlock → K (a.put o.dst v') w') :
    if Region.wanted o (yielded ops a.tmps) = true then Oper.wp P o a w K Q else E := by
  have hw : Region.wanted o (yielded ops a.tmps) = true := by simp [Region.wanted, hg]
  rw [if_pos hw]
  exact wp_append_own w s x t hop base e i z size bytes h1 h2 h3 h4 h5 h6 h7 v n xs hs hown ad m c news hx hn hc h1c b1 b2 hbase fun v' w' r1 r2 _ => hK v' w' r1 r2
theorem bel_alloc {w W : World} (h : Below w.heap.size w W) (o : Obj) : Below w.heap.size w (W.alloc o) := h.alloc h.size o
theorem bel_then {w W W' : World} (h : Below w.heap.size w W) (h' : Below W.heap.size W W') : Below w.heap.size w W' := h.trans (h'.mono h.size)
/-- A slice that is owned, of whatever length: its value; where it has an element, its cells. -/
theorem own_view {w : World} {base : Nat} {e : TypeId} {v : Value} {n : Nat} {xs : List Value} {size : Nat} (h : w.ownsRow base e size v n xs) :
    ∃ a c, v = .slice a n c ∧ ∀ i, i < n → ∃ g, a = some ⟨g, 0, none⟩ ∧ g < w.heap.size ∧ ∀ j, j < n * size → w.cell? ⟨g, j, none⟩ = xs[j]? := by
  rcases h.2 with ⟨rfl, rfl⟩ | ⟨g, cap, cur, rfl, hb, hg, h1, h2, h3, h4⟩
  · exact ⟨none, 0, rfl, fun i hi => absurd hi (Nat.not_lt_zero _)⟩
  · exact ⟨some ⟨g, 0, none⟩, cap, rfl, fun i hi => ⟨g, rfl, lt_of_block hg, fun j hj => h.cellAt j hj⟩⟩
theorem hideF {p : Prop} (h : p) : Hid p := h
theorem ownsRow_heap {w w' : World} (e0 : w'.heap = w.heap) {base : Nat} {e : TypeId} {size : Nat} {v : Value} {n : Nat} {xs : List Value} (h : w.ownsRow base e size v n xs) : w'.ownsRow base e size v n xs := by
  unfold World.ownsRow at h ⊢
  rw [e0]; exact h
/-- The first n elements of a slice read so; what lies behind them in its array is not told. -/
def Reads (w : World) (B : Nat) (e : TypeId) (size : Nat) (v : Value) (n : Nat) (xs : List Value) : Prop :=
  xs.length = n * size ∧ ((v = .slice none 0 0 ∧ n = 0) ∨ ∃ g cap cur, v = .slice (some ⟨g, 0, none⟩) n cap ∧ B ≤ g ∧ w.heap[g]? = some (.cells cur e (0, 0)) ∧ cur.toList.take (n * size) = xs)

section
variable {w w' : World} {B : Nat} {e : TypeId} {size : Nat} {v : Value} {n : Nat} {xs : List Value}

theorem Reads.of_own (h : w.ownsRow B e size v n xs) : Reads w B e size v n xs := by
  refine ⟨h.1, ?_⟩
  rcases h.2 with h0 | ⟨g, cap, cur, hv, hg, hh, _, _, _, h4⟩
  · exact .inl h0
  · exact .inr ⟨g, cap, cur, hv, hg, hh, h4⟩
theorem Reads.lt (h : Reads w B e size v n xs) : ∀ g, v.ownBlock = some g → B ≤ g ∧ g < w.heap.size := by
  intro g hg
  rcases h.2 with ⟨rfl, _⟩ | ⟨g', cap, cur, rfl, hb, hh, _⟩
  · simp [Value.ownBlock] at hg
  · simp [Value.ownBlock] at hg
    subst hg
    exact ⟨hb, lt_of_block hh⟩
/-- Where a block has not turned, what lies in it reads as before. -/
theorem Reads.same (h : Reads w B e size v n xs) (hs : ∀ g, v.ownBlock = some g → w'.heap[g]? = w.heap[g]?) : Reads w' B e size v n xs := by
  refine ⟨h.1, ?_⟩
  rcases h.2 with h0 | ⟨g, cap, cur, rfl, hg, hh, h4⟩
  · exact .inl h0
  · exact .inr ⟨g, cap, cur, rfl, hg, (hs g rfl).trans hh, h4⟩
theorem own_same (h : w.ownsRow B e size v n xs) (hs : ∀ g, v.ownBlock = some g → w'.heap[g]? = w.heap[g]?) : w'.ownsRow B e size v n xs := by
  refine ⟨h.1, ?_⟩
  rcases h.2 with h0 | ⟨g, cap, cur, rfl, hg, hh, h1, h2, h3, h4⟩
  · exact .inl h0
  · exact .inr ⟨g, cap, cur, rfl, hg, (hs g rfl).trans hh, h1, h2, h3, h4⟩
/-- Two blocks whose elements are of different types are two. -/
theorem own_block (h : w.ownsRow B e size v n xs) : ∀ g, v.ownBlock = some g → ∃ cur, w.heap[g]? = some (.cells cur e (0, 0)) := by
  intro g hg
  rcases h.2 with ⟨rfl, _⟩ | ⟨g', cap, cur, rfl, hb, hh, _⟩
  · simp [Value.ownBlock] at hg
  · simp [Value.ownBlock] at hg
    subst hg
    exact ⟨cur, hh⟩
theorem Reads.block (h : Reads w B e size v n xs) : ∀ g, v.ownBlock = some g → ∃ cur, w.heap[g]? = some (.cells cur e (0, 0)) := by
  intro g hg
  rcases h.2 with ⟨rfl, _⟩ | ⟨g', cap, cur, rfl, hb, hh, _⟩
  · simp [Value.ownBlock] at hg
  · simp [Value.ownBlock] at hg
    subst hg
    exact ⟨cur, hh⟩
theorem Reads.view (h : Reads w B e size v n xs) :
    ∃ a c, v = .slice a n c ∧ ∀ i, i < n → ∃ g, a = some ⟨g, 0, none⟩ ∧ g < w.heap.size ∧ ∀ j, j < n * size → w.cell? ⟨g, j, none⟩ = xs[j]? := by
  rcases h.2 with ⟨rfl, rfl⟩ | ⟨g, cap, cur, rfl, hb, hg, h4⟩
  · exact ⟨none, 0, rfl, fun i hi => absurd hi (Nat.not_lt_zero _)⟩
  · refine ⟨some ⟨g, 0, none⟩, cap, rfl, fun i hi => ⟨g, rfl, lt_of_block hg, fun j hj => ?_⟩⟩
    rw [cell_of_row w g j cur e (0, 0) hg, ← h4, List.getElem?_take, if_pos hj]
    simp
end

/-- What is left of an array's first cells behind an append to a slice in it. -/
def Keeps (w w' : World) (e : TypeId) (v : Value) (k : Nat) : Prop :=
  ∀ g cur, v.ownBlock = some g → w.heap[g]? = some (.cells cur e (0, 0)) → ∃ cur', w'.heap[g]? = some (.cells cur' e (0, 0)) ∧ cur'.toList.take k = cur.toList.take k

/-- append to a slice of the call's own: as 'run_append_own', and besides: the old array's first cells stay; the new value lies where the old one lay, or in a new block. -/
theorem run_append_keep {P : Program} (w : World) (base : Nat) (t ty e : TypeId) (i : TypeInfo) (z : Value) (size bytes : Nat) (ht : P.underlying t = some (.slice e)) (hi : P.info? e = some i) (hz : i.zero = some z)
    (hsize : i.size = size) (hby : i.bytes = bytes) (hzs : z.cells.size = size) (hsz : 0 < size)
    (v : Value) (n : Nat) (xs : List Value) (hown : w.ownsRow base e size v n xs)
    (a : Addr) (m c : Nat) (news : List Value) (hl : news.length = m * size) (hnews : ∀ j u, news[j]? = some u → w.cell? (a.add j) = some u) (h1 : ∀ u ∈ news, u.oneCell' = true)
    (h63 : n + m ≤ maxLen) (hbytes : (n + m) * bytes ≤ 140737488355328) (hbase : base ≤ w.heap.size) :
    ∃ v' w', (Builtin.append_ #[t, t] ty #[v, .slice (some a) m c]).run P w = .ok v' w' ∧ w'.ownsRow base e size v' (n + m) (xs ++ news) ∧ w.grownBy w' v.ownBlock ∧
      Keeps w w' e v (n * size) ∧ ∀ g', v'.ownBlock = some g' → v.ownBlock = some g' ∨ w.heap.size ≤ g' := by
  obtain ⟨v', w', hrun, r1, r2, _⟩ := run_append_own (P := P) w base t ty e i z size bytes ht hi hz hsize hby hzs hsz v n xs hown a m c news hl hnews h1 h63 hbytes hbase
  refine ⟨v', w', hrun, r1, r2, ?_, ?_⟩
  all_goals
    subst hsize
    have hsmall : n + m ≤ 9223372036854775807 := by simp only [maxLen] at h63; omega
  · intro g cur hg hh
    rcases hown.2 with ⟨rfl, _⟩ | ⟨g', cap, cur', rfl, hbg, hgg, hnc, hcm, hcs, htake⟩
    · simp [Value.ownBlock] at hg
    · simp [Value.ownBlock] at hg
      subst hg
      rw [hh] at hgg
      obtain rfl : cur = cur' := by simpa using hgg
      by_cases hroom : n + m ≤ cap
      · have hfit : n * i.size + news.length ≤ cur.size := by rw [hl, hcs, ← Nat.add_mul]; exact Nat.mul_le_mul_right _ hroom
        have hr := run_append_room (P := P) w t ty e i ht hi g' n cap cur hh a m c news hl hnews h1 hroom hfit
        rw [hr] at hrun
        simp only [Result.ok.injEq] at hrun
        obtain ⟨rfl, rfl⟩ := hrun
        refine ⟨_, setRow_heap w g' cur _ e _ hh, ?_⟩
        rw [List.toList_toArray, List.append_assoc]
        have hlt : (cur.toList.take (n * i.size)).length = n * i.size := by rw [List.length_take, Array.length_toList]; omega
        have := List.take_left (l₁ := cur.toList.take (n * i.size)) (l₂ := news ++ cur.toList.drop (n * i.size + news.length))
        rw [hlt] at this
        exact this
      · have holds : ∀ j u, xs[j]? = some u → w.cell? ((⟨g', 0, none⟩ : Addr).add j) = some u := hown.cells (g := g') rfl
        have hr := run_append_grow (P := P) w t ty e i z ht hi hz ⟨g', 0, none⟩ n cap xs hown.1 holds a m c news hl hnews (by omega) (by omega) (growslice_fits (by omega) (by rw [hby]; exact hbytes))
        rw [hr] at hrun
        simp only [Result.ok.injEq] at hrun
        obtain ⟨rfl, rfl⟩ := hrun
        exact ⟨cur, (heap_alloc_old w.drew _ (lt_of_block hh)).trans hh, rfl⟩
  · intro g' hg'
    rcases hown.2 with ⟨rfl, rfl⟩ | ⟨g, cap, cur, rfl, hbg, hgg, hnc, hcm, hcs, htake⟩
    · right
      by_cases hm : m = 0
      · subst hm
        have hn : news = [] := List.eq_nil_of_length_eq_zero (by simpa using hl)
        subst hn
        have : (Builtin.append_ #[t, t] ty #[.slice none 0 0, .slice (some a) 0 c]).run P w = .ok (.slice none 0 0) w := by
          simp [Builtin.append_, run_underlying ht, sizeOf, typeInfo, hi, Builtin.lenOf, Builtin.firstCells, loadCells, loadCellsFrom]
        rw [this] at hrun
        simp only [Result.ok.injEq] at hrun
        obtain ⟨rfl, rfl⟩ := hrun
        simp [Value.ownBlock] at hg'
      · have hr := run_append_nil (P := P) w t ty e i z ht hi hz a m c news hl hnews (by omega) (by omega) (by rw [hby]; simp only [Nat.zero_add] at hbytes; omega)
        rw [hr] at hrun
        simp only [Result.ok.injEq] at hrun
        obtain ⟨rfl, rfl⟩ := hrun
        simp [Value.ownBlock] at hg'
        omega
    · by_cases hroom : n + m ≤ cap
      · have hfit : n * i.size + news.length ≤ cur.size := by rw [hl, hcs, ← Nat.add_mul]; exact Nat.mul_le_mul_right _ hroom
        have hr := run_append_room (P := P) w t ty e i ht hi g n cap cur hgg a m c news hl hnews h1 hroom hfit
        rw [hr] at hrun
        simp only [Result.ok.injEq] at hrun
        obtain ⟨rfl, rfl⟩ := hrun
        left
        simpa [Value.ownBlock] using hg'
      · have holds : ∀ j u, xs[j]? = some u → w.cell? ((⟨g, 0, none⟩ : Addr).add j) = some u := hown.cells (g := g) rfl
        have hr := run_append_grow (P := P) w t ty e i z ht hi hz ⟨g, 0, none⟩ n cap xs hown.1 holds a m c news hl hnews (by omega) (by omega) (growslice_fits (by omega) (by rw [hby]; exact hbytes))
        rw [hr] at hrun
        simp only [Result.ok.injEq] at hrun
        obtain ⟨rfl, rfl⟩ := hrun
        right
        simp [Value.ownBlock] at hg'
        omega

theorem wpList_append_keep {P : Program} {w : World} {ops : Array Oper} {rest : List Oper} {o : Oper} {a : Act} {Q : Exit → Act → World → Prop} (hgd : o.guard = none) (s x : Operand) (t : TypeId)
    (ho : o.op = .call { callee := .builtin .append, args := #[s, x], argTypes := #[t, t] })
    (base : Nat) (e : TypeId) (i : TypeInfo) (z : Value) (size bytes : Nat) (ht : P.underlying t = some (.slice e)) (hi : P.info? e = some i) (hz : i.zero = some z)
    (hsize : i.size = size) (hby : i.bytes = bytes) (hzs : z.cells.size = size) (hsz : 0 < size)
    (v : Value) (n : Nat) (xs : List Value) (hs : a.eval s = v) (hown : w.ownsRow base e size v n xs)
    (ad : Addr) (m c : Nat) (news : List Value) (hx : a.eval x = .slice (some ad) m c) (hl : news.length = m * size) (hnews : ∀ j u, news[j]? = some u → w.cell? (ad.add j) = some u) (h1 : ∀ u ∈ news, u.oneCell' = true)
    (h63 : n + m ≤ maxLen) (hbytes : (n + m) * bytes ≤ 140737488355328) (hbase : base ≤ w.heap.size)
    (h : ∀ v' w', w'.ownsRow base e size v' (n + m) (xs ++ news) → w.grownBy w' v.ownBlock → Keeps w w' e v (n * size) → (∀ g', v'.ownBlock = some g' → v.ownBlock = some g' ∨ w.heap.size ≤ g') → wpList P ops Q rest (a.put o.dst v') w') : wpList P ops Q (o :: rest) a w := by
  refine wpList_plain hgd fun K hK => ?_
  obtain ⟨v', w', hr, h2, h3, h4, h5⟩ := run_append_keep (P := P) w base t o.type e i z size bytes ht hi hz hsize hby hzs hsz v n xs hown ad m c news hl hnews h1 h63 hbytes hbase
  unfold Oper.wp execOp
  simp only [ho, resolve, invoke, builtin, Sem.run_bind, Sem.run_pure, Result.andThen_ok, List.map_toArray, List.map_cons, List.map_nil, hs, hx, hr]
  exact hK _ _ (h v' w' h2 h3 h4 h5)

/-- A list beside a slice that is appended to: it reads as before, if it lies elsewhere or is no longer than it. -/
theorem Reads.append {w w' : World} {B : Nat} {e : TypeId} {size : Nat} {u v : Value} {k n : Nat} {ys : List Value} (h : Reads w B e size u k ys) (hg : w.grownBy w' v.ownBlock) (hk : Keeps w w' e v (n * size))
    (hle : ∀ g, u.ownBlock = some g → v.ownBlock = some g → k ≤ n) : Reads w' B e size u k ys := by
  refine ⟨h.1, ?_⟩
  rcases h.2 with h0 | ⟨g, cap, cur, rfl, hb, hh, h4⟩
  · exact .inl h0
  · by_cases hv : v.ownBlock = some g
    · have hkn := hle g rfl hv
      obtain ⟨cur', h5, h6⟩ := hk g cur hv hh
      refine .inr ⟨g, cap, cur', rfl, hb, h5, ?_⟩
      have hm : k * size ≤ n * size := Nat.mul_le_mul_right _ hkn
      rw [← h4]
      have e1 : cur'.toList.take (k * size) = (cur'.toList.take (n * size)).take (k * size) := by rw [List.take_take, Nat.min_eq_left hm]
      have e2 : cur.toList.take (k * size) = (cur.toList.take (n * size)).take (k * size) := by rw [List.take_take, Nat.min_eq_left hm]
      rw [e1, e2, h6]
    · exact .inr ⟨g, cap, cur, rfl, hb, (hg.block g (lt_of_block hh) (fun e => hv e.symm)).trans hh, h4⟩
/-- The lists of one kind: each reads as its owner marked it. -/
def Lists (w : World) (B : Nat) (eO e : TypeId) (size : Nat) (mk : Nat → List Value) (vO : Value) (N : Nat) : Prop :=
  ∃ Ls, w.ownsRow B eO 1 vO N Ls ∧ ∀ i v, Ls[i]? = some v → ∃ m, m ≤ 2000000 ∧ Reads w B e size v m ((List.replicate m (mk (i / 4 * 4))).flatten)
theorem rep_at (cs : List Value) (size m k j : Nat) (hcs : cs.length = size) (hk : k < m) (hj : j < size) : ((List.replicate m cs).flatten)[k * size + j]? = cs[j]? := by
  induction m generalizing k with
  | zero => exact absurd hk (Nat.not_lt_zero _)
  | succ m ih =>
    rw [List.replicate_succ, List.flatten_cons]
    cases k with
    | zero => rw [Nat.zero_mul, Nat.zero_add, List.getElem?_append_left (by omega)]
    | succ k =>
      have hmul : (k + 1) * size = k * size + size := Nat.succ_mul k size
      rw [List.getElem?_append_right (by omega), hcs, show (k + 1) * size + j - size = k * size + j by omega]
      exact ih k (by omega)
theorem Lists.view {w : World} {B : Nat} {eO e : TypeId} {size : Nat} {mk : Nat → List Value} {vO : Value} {N : Nat} (h : Lists w B eO e size mk vO N) (hmk : ∀ i, (mk i).length = size) :
    ∃ a c, vO = .slice a N c ∧ ∀ i, i < N → ∃ gO, a = some ⟨gO, 0, none⟩ ∧ gO < w.heap.size ∧ ∃ a' m c', w.cell? ⟨gO, i, none⟩ = some (.slice a' m c') ∧ m ≤ 2000000 ∧
      ∀ k, k < m → ∃ g, a' = some ⟨g, 0, none⟩ ∧ g < w.heap.size ∧ ∀ j, j < size → w.cell? ⟨g, k * size + j, none⟩ = (mk (i / 4 * 4))[j]? := by
  obtain ⟨Ls, ho, hl⟩ := h
  obtain ⟨a, c, hv, hc⟩ := own_view ho
  refine ⟨a, c, hv, fun i hi => ?_⟩
  obtain ⟨gO, ha, hg, hcell⟩ := hc i hi
  have hlen : i < Ls.length := by rw [ho.1]; omega
  obtain ⟨m, hm, hr⟩ := hl i Ls[i] (List.getElem?_eq_getElem hlen)
  obtain ⟨a', c', hv', hc'⟩ := hr.view
  refine ⟨gO, ha, hg, a', m, c', ?_, hm, fun k hk => ?_⟩
  · rw [hcell i (by omega), List.getElem?_eq_getElem hlen, hv']
  · obtain ⟨g, hg1, hg2, hg3⟩ := hc' k hk
    refine ⟨g, hg1, hg2, fun j hj => ?_⟩
    have hb : k * size + j < m * size := by
      have : (k + 1) * size ≤ m * size := Nat.mul_le_mul_right _ hk
      rw [Nat.succ_mul] at this
      omega
    rw [hg3 _ hb, rep_at _ size m k j (hmk _) hk hj]
def reps (m : Nat) (cs : List Value) : List Value := (List.replicate m cs).flatten
theorem reps_succ (m : Nat) (cs : List Value) : reps (m + 1) cs = reps m cs ++ cs := by
  unfold reps; rw [List.replicate_succ', List.flatten_append]; simp
theorem reps_len (m size : Nat) (cs : List Value) (h : cs.length = size) : (reps m cs).length = m * size := by
  unfold reps
  induction m with
  | zero => simp
  | succ m ih => rw [List.replicate_succ, List.flatten_cons, List.length_append, ih, h, Nat.succ_mul]; omega

/-- Only these blocks may have turned: kb, and those of two slices. -/
structure Foot (w w' : World) (kb : Nat) (vO vC : Value) : Prop where
  os : w'.os = w.os
  tape : w'.tape = w.tape
  output : w'.output = w.output
  size : w.heap.size ≤ w'.heap.size
  block : ∀ k, k < w.heap.size → k ≠ kb → vO.ownBlock ≠ some k → vC.ownBlock ≠ some k → w'.heap[k]? = w.heap[k]?

theorem Foot.refl (w : World) (kb : Nat) (vO vC : Value) : Foot w w kb vO vC := ⟨rfl, rfl, rfl, Nat.le_refl _, fun _ _ _ _ _ => rfl⟩
theorem Foot.trans {a b c : World} {kb : Nat} {vO vC : Value} (h : Foot a b kb vO vC) (os : c.os = b.os) (tape : c.tape = b.tape) (output : c.output = b.output) (size : b.heap.size ≤ c.heap.size)
    (hb : ∀ k, k < a.heap.size → k ≠ kb → vO.ownBlock ≠ some k → vC.ownBlock ≠ some k → c.heap[k]? = b.heap[k]?) : Foot a c kb vO vC :=
  ⟨os.trans h.os, tape.trans h.tape, output.trans h.output, Nat.le_trans h.size size, fun k h1 h2 h3 h4 => (hb k h1 h2 h3 h4).trans (h.block k h1 h2 h3 h4)⟩
theorem Foot.below {w w' : World} {kb B : Nat} {vO vC : Value} (h : Foot w w' kb vO vC) (hk : B ≤ kb) (hO : ∀ g, vO.ownBlock = some g → B ≤ g) (hC : ∀ g, vC.ownBlock = some g → B ≤ g) (hB : B ≤ w.heap.size) : Below B w w' :=
  ⟨h.os, h.tape, h.output, h.size, fun k hk' => h.block k (by omega) (by omega) (fun e => by have := hO k e; omega) (fun e => by have := hC k e; omega)⟩
theorem Foot.setCell {w w' : World} {kb : Nat} {vO vC : Value} (h : Foot w w' kb vO vC) (a : Addr) (v : Value) (ha : a.block = kb ∨ vO.ownBlock = some a.block ∨ vC.ownBlock = some a.block ∨ w.heap.size ≤ a.block) : Foot w (w'.setCell a v) kb vO vC :=
  h.trans rfl rfl rfl (by simp) (fun k h1 h2 h3 h4 => heap_setCell_other _ _ _ _ (fun e => by
    subst e
    rcases ha with r | r | r | r
    · exact h2 r
    · exact h3 r
    · exact h4 r
    · omega))
theorem Foot.alloc {w w' : World} {kb : Nat} {vO vC : Value} (h : Foot w w' kb vO vC) (o : Obj) : Foot w (w'.alloc o) kb vO vC :=
  h.trans rfl rfl rfl (by simp) (fun k h1 _ _ _ => heap_alloc_old w' o (by have := h.size; omega))
theorem Foot.grown {w w' w'' : World} {kb : Nat} {vO vC v : Value} (h : Foot w w' kb vO vC) (hg : w'.grownBy w'' v.ownBlock) (hv : ∀ g, v.ownBlock = some g → vO.ownBlock = some g ∨ vC.ownBlock = some g ∨ w.heap.size ≤ g) : Foot w w'' kb vO vC :=
  h.trans hg.os hg.tape hg.output hg.size (fun k h1 _ h3 h4 => hg.block k (by have := h.size; omega) (fun e => by
    rcases hv k e.symm with r | r | r
    · exact h3 r
    · exact h4 r
    · omega))

/-- The lists of one kind, and where they lie. -/
def ListsIn (w : World) (B : Nat) (eO e : TypeId) (size : Nat) (mk : Nat → List Value) (vO : Value) (N : Nat) (Q : Nat → Prop) : Prop :=
  ∃ Ls : List Value, w.ownsRow B eO 1 vO N Ls ∧ ∀ (i : Nat) (u : Value), Ls[i]? = some u → ∃ k, k ≤ 2000000 ∧ Reads w B e size u k (reps k (mk (i / 4 * 4))) ∧ ∀ g, u.ownBlock = some g → Q g

/-- The state while one list is recorded: 'vO' the lists of its kind, N + q of them; 'v' the list as it has grown, m long; all lie in Q. -/
structure Rec (w : World) (B : Nat) (eO e : TypeId) (size : Nat) (mk : Nat → List Value) (Q : Nat → Prop) (N q : Nat) (vO : Value) (v : Value) (m : Nat) : Prop where
  outer : ∃ Ls : List Value, w.ownsRow B eO 1 vO (N + q) Ls ∧ ∀ (i : Nat) (u : Value), Ls[i]? = some u → ∃ k, k ≤ 2000000 ∧ Reads w B e size u k (reps k (mk (i / 4 * 4))) ∧ (∀ g, u.ownBlock = some g → Q g) ∧ (∀ g, u.ownBlock = some g → v.ownBlock = some g → k ≤ m)
  list : w.ownsRow B e size v m (reps m (mk N))
  inQ : ∀ g, v.ownBlock = some g → Q g

section
variable {w w' : World} {B : Nat} {eO e : TypeId} {size : Nat} {mk : Nat → List Value} {Q : Nat → Prop} {N q : Nat} {vO v : Value} {m : Nat}

theorem ListsIn.lists (h : ListsIn w B eO e size mk vO N Q) : Lists w B eO e size mk vO N := by
  obtain ⟨Ls, h1, h2⟩ := h
  exact ⟨Ls, h1, fun i u hu => by obtain ⟨k, r1, r2, _⟩ := h2 i u hu; exact ⟨k, r1, r2⟩⟩
theorem ListsIn.weaken {Q' : Nat → Prop} (h : ListsIn w B eO e size mk vO N Q) (hQ : ∀ g, g < w.heap.size → Q g → Q' g) : ListsIn w B eO e size mk vO N Q' := by
  obtain ⟨Ls, h1, h2⟩ := h
  exact ⟨Ls, h1, fun i u hu => by obtain ⟨k, r1, r2, r3⟩ := h2 i u hu; exact ⟨k, r1, r2, fun g hg => hQ g (r2.lt g hg).2 (r3 g hg)⟩⟩
theorem ListsIn.carry (h : ListsIn w B eO e size mk vO N Q) (hs : ∀ (k : Nat) (cur : Array Value) (t : TypeId), w.heap[k]? = some (Obj.cells cur t (0, 0)) → (vO.ownBlock = some k ∨ Q k) → (t = eO ∨ t = e) → w'.heap[k]? = w.heap[k]?) : ListsIn w' B eO e size mk vO N Q := by
  obtain ⟨Ls, h1, h2⟩ := h
  refine ⟨Ls, own_same h1 (fun g hg => ?_), fun i u hu => ?_⟩
  · obtain ⟨cur, hc⟩ := own_block h1 g hg
    exact hs g cur eO hc (.inl hg) (.inl rfl)
  · obtain ⟨k, r1, r2, r3⟩ := h2 i u hu
    refine ⟨k, r1, r2.same (fun g hg => ?_), r3⟩
    obtain ⟨cur, hc⟩ := r2.block g hg
    exact hs g cur e hc (.inr (r3 g hg)) (.inr rfl)
theorem ListsIn.below (h : ListsIn w B eO e size mk vO N Q) (hb : Below w.heap.size w w') : ListsIn w' B eO e size mk vO N Q :=
  h.carry (fun k _ _ hc _ _ => hb.block k (lt_of_block hc))

/-- What is neither of the list's kind nor of the lists' may turn. -/
theorem Rec.carry (h : Rec w B eO e size mk Q N q vO v m) (hs : ∀ (k : Nat) (cur : Array Value) (t : TypeId), w.heap[k]? = some (Obj.cells cur t (0, 0)) → (t = eO ∨ t = e) → w'.heap[k]? = w.heap[k]?) : Rec w' B eO e size mk Q N q vO v m := by
  obtain ⟨⟨Ls, h1, h2⟩, h3, h5⟩ := h
  refine ⟨⟨Ls, own_same h1 (fun g hg => ?_), fun i u hu => ?_⟩, own_same h3 (fun g hg => ?_), h5⟩
  · obtain ⟨cur, hc⟩ := own_block h1 g hg
    exact hs g cur eO hc (.inl rfl)
  · obtain ⟨k, r1, r2, r3⟩ := h2 i u hu
    refine ⟨k, r1, r2.same (fun g hg => ?_), r3⟩
    obtain ⟨cur, hc⟩ := r2.block g hg
    exact hs g cur e hc (.inr rfl)
  · obtain ⟨cur, hc⟩ := own_block h3 g hg
    exact hs g cur e hc (.inr rfl)
theorem Rec.alloc (h : Rec w B eO e size mk Q N q vO v m) (o : Obj) : Rec (w.alloc o) B eO e size mk Q N q vO v m :=
  h.carry (fun _ _ _ hc _ => heap_alloc_old w o (lt_of_block hc))
/-- A store into a block of another type. -/
theorem Rec.setCell (h : Rec w B eO e size mk Q N q vO v m) (kb i : Nat) (x : Value) (cur : Array Value) (t : TypeId) (hk : w.heap[kb]? = some (Obj.cells cur t (0, 0))) (h1 : t ≠ eO) (h2 : t ≠ e) : Rec (w.setCell ⟨kb, i, none⟩ x) B eO e size mk Q N q vO v m :=
  h.carry (fun k c t' hc ht => heap_setCell_other _ _ _ _ (fun ee => by
    have ee : k = kb := ee
    rw [ee, hk] at hc
    simp only [Option.some.injEq, Obj.cells.injEq] at hc
    rcases ht with r | r
    · exact h1 (hc.2.1.trans r)
    · exact h2 (hc.2.1.trans r)))
/-- The list is laid into the lists. -/
theorem Rec.push (h : Rec w B eO e size mk Q N q vO v m) (hq : q < 4) (hN : N % 4 = 0) (hne : eO ≠ e) (hm : m ≤ 2000000) {vO' : Value} (hgr : w.grownBy w' vO.ownBlock) (hown : ∀ Ls, w.ownsRow B eO 1 vO (N + q) Ls → w'.ownsRow B eO 1 vO' (N + q + 1) (Ls ++ [v])) :
    Rec w' B eO e size mk Q N (q + 1) vO' v m := by
  obtain ⟨⟨Ls, h1, h2⟩, h3, h5⟩ := h
  have hblk : ∀ (g : Nat) (cur : Array Value), w.heap[g]? = some (Obj.cells cur e (0, 0)) → w'.heap[g]? = w.heap[g]? := by
    intro g cur hc
    refine hgr.block g (lt_of_block hc) (fun ee => ?_)
    obtain ⟨cur', hc'⟩ := own_block h1 g ee.symm
    rw [hc'] at hc
    simp at hc
    exact hne hc.2
  have h3' : w'.ownsRow B e size v m (reps m (mk N)) := own_same h3 (fun g hg => by obtain ⟨cur, hc⟩ := own_block h3 g hg; exact hblk g cur hc)
  have hlen : Ls.length = N + q := by have := h1.1; omega
  refine ⟨⟨Ls ++ [v], hown Ls h1, fun i u hu => ?_⟩, h3', h5⟩
  by_cases hi : i < Ls.length
  · rw [List.getElem?_append_left hi] at hu
    obtain ⟨k, r1, r2, r3⟩ := h2 i u hu
    exact ⟨k, r1, r2.same (fun g hg => by obtain ⟨cur, hc⟩ := r2.block g hg; exact hblk g cur hc), r3⟩
  · rw [List.getElem?_append_right (by omega)] at hu
    have hi2 : i - Ls.length = 0 := by
      have := (List.getElem?_eq_some_iff.1 hu).1
      simpa using this
    rw [hi2] at hu
    obtain rfl : v = u := by simpa using hu
    refine ⟨m, hm, ?_, h5, fun _ _ _ => Nat.le_refl _⟩
    rw [show i / 4 * 4 = N by omega]
    exact Reads.of_own h3'
/-- The list grows by a mark. -/
theorem Rec.grow (h : Rec w B eO e size mk Q N q vO v m) (hne : eO ≠ e) {v' : Value} (hgr : w.grownBy w' v.ownBlock) (hk : Keeps w w' e v (m * size)) (hfr : ∀ g', v'.ownBlock = some g' → v.ownBlock = some g' ∨ w.heap.size ≤ g')
    (hQ : ∀ g, w.heap.size ≤ g → Q g) (hown : w'.ownsRow B e size v' (m + 1) (reps m (mk N) ++ mk N)) : Rec w' B eO e size mk Q N q vO v' (m + 1) := by
  obtain ⟨⟨Ls, h1, h2⟩, h3, h5⟩ := h
  refine ⟨⟨Ls, own_same h1 (fun g hg => ?_), fun i u hu => ?_⟩, by rw [reps_succ]; exact hown, fun g hg => (hfr g hg).elim (h5 g) (hQ g)⟩
  · obtain ⟨cur, hc⟩ := own_block h1 g hg
    refine hgr.block g (lt_of_block hc) (fun ee => ?_)
    obtain ⟨cur', hc'⟩ := own_block h3 g ee.symm
    rw [hc'] at hc
    simp at hc
    exact hne hc.2.symm
  · obtain ⟨k, r1, r2, r4, r3⟩ := h2 i u hu
    refine ⟨k, r1, r2.append hgr hk r3, r4, fun g hg hv' => ?_⟩
    rcases hfr g hv' with r | r
    · have := r3 g hg r; omega
    · have := (r2.lt g hg).2; omega
/-- Behind the four: the lists stand by themselves. -/
theorem Rec.lists (h : Rec w B eO e size mk Q N q vO v m) : ListsIn w B eO e size mk vO (N + q) Q := by
  obtain ⟨⟨Ls, h1, h2⟩, _, _⟩ := h
  exact ⟨Ls, h1, fun i u hu => by obtain ⟨k, r1, r2, r3, _⟩ := h2 i u hu; exact ⟨k, r1, r2, r3⟩⟩
/-- Lists that lie apart from a slice: recording may begin. -/
theorem Rec.start {P : Nat → Prop} (h : ListsIn w B eO e size mk vO N P) (hv : w.ownsRow B e size v m (reps m (mk N))) (hap : ∀ g, P g → v.ownBlock ≠ some g) (hPQ : ∀ g, P g → Q g) (hvQ : ∀ g, v.ownBlock = some g → Q g) : Rec w B eO e size mk Q N 0 vO v m := by
  obtain ⟨Ls, h1, h2⟩ := h
  exact ⟨⟨Ls, h1, fun i u hu => by
    obtain ⟨k, r1, r2, r3⟩ := h2 i u hu
    exact ⟨k, r1, r2, fun g hg => hPQ g (r3 g hg), fun g hg hg' => absurd hg' (hap g (r3 g hg))⟩⟩, hv, hvQ⟩
end

/-- The first K cells of a slice's own array are as they shall be. -/
def PartC (w : World) (B : Nat) (e : TypeId) (size : Nat) (v : Value) (n K : Nat) (xs : List Value) : Prop :=
  (v = .slice none 0 0 ∧ n = 0) ∨ ∃ g cap cur, v = .slice (some ⟨g, 0, none⟩) n cap ∧ B ≤ g ∧ w.heap[g]? = some (Obj.cells cur e (0, 0)) ∧ n ≤ cap ∧ cap ≤ maxLen ∧ cur.size = cap * size ∧ ∀ x, x < K → cur[x]? = xs[x]?
section
variable {w w' : World} {B : Nat} {e : TypeId} {size : Nat} {v : Value} {n K : Nat} {xs ys : List Value}
theorem PartC.of_own (h : w.ownsRow B e size v n ys) : PartC w B e size v n 0 xs := by
  rcases h.2 with h0 | ⟨g, cap, cur, hv, hg, hh, h1, h2, h3, _⟩
  · exact .inl h0
  · exact .inr ⟨g, cap, cur, hv, hg, hh, h1, h2, h3, fun x hx => absurd hx (Nat.not_lt_zero _)⟩
theorem PartC.own (h : PartC w B e size v n K xs) (hx : xs.length = n * size) (hK : K = n * size) : w.ownsRow B e size v n xs := by
  refine ⟨hx, ?_⟩
  rcases h with h0 | ⟨g, cap, cur, hv, hg, hh, h1, h2, h3, h4⟩
  · exact .inl h0
  · refine .inr ⟨g, cap, cur, hv, hg, hh, h1, h2, h3, ?_⟩
    have hle : n * size ≤ cap * size := Nat.mul_le_mul_right _ h1
    apply List.ext_getElem?
    intro x
    rw [List.getElem?_take]
    split
    · rename_i hlt
      rw [← h4 x (by omega)]
      simp
    · rename_i hlt
      rw [List.getElem?_eq_none (by omega)]
theorem PartC.same (h : PartC w B e size v n K xs) (hs : ∀ g, v.ownBlock = some g → w'.heap[g]? = w.heap[g]?) : PartC w' B e size v n K xs := by
  rcases h with h0 | ⟨g, cap, cur, rfl, hg, hh, r⟩
  · exact .inl h0
  · exact .inr ⟨g, cap, cur, rfl, hg, (hs g rfl).trans hh, r⟩
theorem PartC.step {g cap : Nat} {a : Value} (h : PartC w B e size (.slice (some ⟨g, 0, none⟩) n cap) n K xs) (ha : xs[K]? = some a) (hK : K < n * size) : PartC (w.setCell ⟨g, K, none⟩ a) B e size (.slice (some ⟨g, 0, none⟩) n cap) n (K + 1) xs := by
  rcases h with ⟨h0, _⟩ | ⟨g', cap', cur, hv, hg, hh, h1, h2, h3, h4⟩
  · simp at h0
  · simp only [Value.slice.injEq, Option.some.injEq, Addr.mk.injEq, and_true, true_and] at hv
    obtain ⟨rfl, rfl⟩ := hv
    refine .inr ⟨g, cap, cur.setIfInBounds K a, rfl, hg, heap_setCell_same w g K cur e a hh, h1, h2, by rw [Array.size_setIfInBounds]; exact h3, fun x hx => ?_⟩
    have hle : n * size ≤ cap * size := Nat.mul_le_mul_right _ h1
    rw [Array.getElem?_setIfInBounds]
    by_cases e1 : K = x
    · subst e1
      rw [if_pos rfl, if_pos (by omega), ha]
    · rw [if_neg e1]
      exact h4 x (by omega)
theorem PartC.cells {g cap : Nat} (h : PartC w B e size (.slice (some ⟨g, 0, none⟩) n cap) n K xs) : (∀ j, j < n * size → ∃ u, w.cell? ⟨g, j, none⟩ = some u) ∧ ∀ j, w.frozen? ⟨g, j, none⟩ = false := by
  rcases h with ⟨h0, _⟩ | ⟨g', cap', cur, hv, hg, hh, h1, h2, h3, h4⟩
  · simp at h0
  · simp only [Value.slice.injEq, Option.some.injEq, Addr.mk.injEq, and_true, true_and] at hv
    obtain ⟨rfl, rfl⟩ := hv
    have hle : n * size ≤ cap * size := Nat.mul_le_mul_right _ h1
    refine ⟨fun j hj => ?_, fun j => frozen_of_row w g j cur e hh⟩
    rw [cell_of_row w g j cur e (0, 0) hh, Array.getElem?_eq_getElem (by omega)]
    exact ⟨_, rfl⟩
theorem PartC.view (h : PartC w B e size v n K xs) : ∃ a c, v = .slice a n c ∧ ∀ i, i < n → ∃ g, a = some ⟨g, 0, none⟩ := by
  rcases h with ⟨rfl, rfl⟩ | ⟨g, cap, cur, rfl, _⟩
  · exact ⟨none, 0, rfl, fun i hi => absurd hi (Nat.not_lt_zero _)⟩
  · exact ⟨_, _, rfl, fun i hi => ⟨g, rfl⟩⟩
end

/-- Nothing but the count of draws has turned. -/
structure SameH (w w' : World) : Prop where
  heap : w'.heap = w.heap
  os : w'.os = w.os
  tape : w'.tape = w.tape
  output : w'.output = w.output
theorem SameH.refl (w : World) : SameH w w := ⟨rfl, rfl, rfl, rfl⟩
theorem SameH.cell {w w' : World} (h : SameH w w') (a : Addr) : w'.cell? a = w.cell? a := by unfold World.cell?; rw [h.heap]
theorem SameH.frozen {w w' : World} (h : SameH w w') (a : Addr) : w'.frozen? a = w.frozen? a := by unfold World.frozen?; rw [h.heap]
theorem SameH.drew {w w' : World} (h : SameH w w') : SameH w w'.drew := ⟨h.heap, h.os, h.tape, h.output⟩
theorem SameH.setCell {w w' : World} (h : SameH w w') (kb i : Nat) (v : Value) (cur : Array Value) (t : TypeId) (hk : w.heap[kb]? = some (Obj.cells cur t (0, 0))) (hv : cur[i]? = some v) : SameH w (w'.setCell ⟨kb, i, none⟩ v) := by
  refine ⟨?_, h.os, h.tape, h.output⟩
  rw [← h.heap]
  apply Array.ext_getElem?
  intro k
  by_cases e : k = kb
  · subst e
    rw [heap_setCell_same w' k i cur t v (by rw [h.heap]; exact hk), h.heap, hk]
    congr 2
    apply Array.ext_getElem?
    intro x
    rw [Array.getElem?_setIfInBounds]
    split
    · rename_i hx
      subst hx
      have hi : i < cur.size := (Array.getElem?_eq_some_iff.1 hv).1
      rw [if_pos hi, hv]
    · rfl
  · exact heap_setCell_other _ _ _ _ e
theorem SameH.foot {w w' : World} (h : SameH w w') (kb : Nat) (vO vC : Value) : Foot w w' kb vO vC := ⟨h.os, h.tape, h.output, by rw [h.heap]; exact Nat.le_refl _, fun k _ _ _ _ => by rw [h.heap]⟩
theorem own_unique {w : World} {B : Nat} {e : TypeId} {size : Nat} {v : Value} {n : Nat} {xs ys : List Value} (h : w.ownsRow B e size v n xs) (h' : w.ownsRow B e size v n ys) : xs = ys := by
  rcases h.2 with ⟨hv, hn⟩ | ⟨g, cap, cur, hv, _, hh, _, _, _, ht⟩
  · have h1 := h.1
    have h2 := h'.1
    rw [hn, Nat.zero_mul] at h1 h2
    rw [List.eq_nil_of_length_eq_zero h1, List.eq_nil_of_length_eq_zero h2]
  · rcases h'.2 with ⟨hv', _⟩ | ⟨g', cap', cur', hv', _, hh', _, _, _, ht'⟩
    · rw [hv] at hv'; simp at hv'
    · rw [hv] at hv'
      simp only [Value.slice.injEq, Option.some.injEq, Addr.mk.injEq, and_true, true_and] at hv'
      obtain ⟨rfl, rfl⟩ := hv'
      rw [hh] at hh'
      simp only [Option.some.injEq, Obj.cells.injEq] at hh'
      rw [← ht, ← ht', hh'.1]

/-- The state: 'w' as it began; 'cs' the book's cells, by the value of the lists' field; 'mb' the mark's own block, where it has one. -/
structure MarkSt (w wr : World) (B kb mb : Nat) (cs : Value → Array Value) (mc : Option (Array Value)) (eO e : TypeId) (size : Nat) (mk : Nat → List Value) (Q : Nat → Prop) (N q : Nat) (vF vC vO v : Value) (m : Nat) : Prop where
  rec_ : Rec wr B eO e size mk Q N q vO v m
  book : wr.heap[kb]? = some (Obj.cells (cs vO) 35 (0, 0))
  mark : ∀ c, mc = some c → wr.heap[mb]? = some (Obj.cells c e (0, 0))
  foot : Foot w wr kb vF vC
  oB : ∀ g, vO.ownBlock = some g → vF.ownBlock = some g ∨ w.heap.size ≤ g
  vB : ∀ g, v.ownBlock = some g → vC.ownBlock = some g ∨ (w.heap.size ≤ g ∧ mb < g)

section
variable {w wr w3 : World} {B kb mb : Nat} {cs : Value → Array Value} {mc : Option (Array Value)} {eO e : TypeId} {size : Nat} {mk : Nat → List Value} {Q : Nat → Prop} {N q : Nat} {vF vC vO v : Value} {m : Nat}

/-- 'b.x = append(b.x, l)'. -/
theorem MarkSt.push (h : MarkSt w wr B kb mb cs mc eO e size mk Q N q vF vC vO v m) (fO : Nat) (hcs : ∀ a b, (cs a).setIfInBounds fO b = cs b) (hq : q < 4) (hN : N % 4 = 0) (hne : eO ≠ e) (h35 : eO ≠ 35) (h35' : e ≠ 35) (hm : m ≤ 2000000) (hkm : ∀ c, mc = some c → mb ≠ kb)
    {o : Obj} {vO' : Value} {Ls : List Value} (hLs : wr.ownsRow B eO 1 vO (N + q) Ls) (hgr : (wr.alloc o).grownBy w3 vO.ownBlock) (hfr : ∀ g', vO'.ownBlock = some g' → vO.ownBlock = some g' ∨ (wr.alloc o).heap.size ≤ g') (hown : w3.ownsRow B eO 1 vO' (N + q + 1) (Ls ++ [v])) :
    MarkSt w (w3.setCell ⟨kb, fO, none⟩ vO') B kb mb cs mc eO e size mk Q N (q + 1) vF vC vO' v m := by
  have hsz := h.foot.size
  have hOb := own_block (hLs.alloc o)
  have hkbX : (wr.alloc o).heap[kb]? = some (Obj.cells (cs vO) 35 (0, 0)) := (heap_alloc_old wr o (lt_of_block h.book)).trans h.book
  have hkb3 : w3.heap[kb]? = some (Obj.cells (cs vO) 35 (0, 0)) := (hgr.block kb (lt_of_block hkbX) (fun ee => by
    obtain ⟨c, hc⟩ := hOb kb ee.symm
    rw [hc] at hkbX
    simp at hkbX
    exact h35 hkbX.2)).trans hkbX
  have hrec : Rec w3 B eO e size mk Q N (q + 1) vO' v m := (h.rec_.alloc o).push hq hN hne hm hgr (fun Ls' hLs' => by
    rw [own_unique hLs' (hLs.alloc o)]; exact hown)
  refine ⟨hrec.setCell kb fO vO' _ 35 hkb3 (fun ee => h35 ee.symm) (fun ee => h35' ee.symm), ?_, ?_, ?_, ?_, h.vB⟩
  · rw [heap_setCell_same w3 kb fO _ 35 vO' hkb3, hcs]
  · intro c hc
    have hm1 := h.mark c hc
    have hmX : (wr.alloc o).heap[mb]? = some (Obj.cells c e (0, 0)) := (heap_alloc_old wr o (lt_of_block hm1)).trans hm1
    rw [heap_setCell_other _ _ _ _ (hkm c hc)]
    refine (hgr.block mb (lt_of_block hmX) (fun ee => ?_)).trans hmX
    obtain ⟨c', hc'⟩ := hOb mb ee.symm
    rw [hc'] at hmX
    simp at hmX
    exact hne hmX.2
  · exact ((h.foot.alloc o).grown hgr (fun g hg => (h.oB g hg).elim .inl (fun r => .inr (.inr r)))).setCell _ _ (.inl rfl)
  · intro g hg
    rcases hfr g hg with r | r
    · exact h.oB g r
    · right; simp at r; omega

/-- 'l = append(l, m)'. -/
theorem MarkSt.grow (h : MarkSt w wr B kb mb cs mc eO e size mk Q N q vF vC vO v m) (hne : eO ≠ e) (h35' : e ≠ 35) (hQ : ∀ g, w.heap.size ≤ g → Q g) (hmb : mb ≤ wr.heap.size) (hcm : ∀ c, mc = some c → vC.ownBlock ≠ some mb)
    {o : Obj} {v' : Value} (hgr : (wr.alloc o).grownBy w3 v.ownBlock) (hk : Keeps (wr.alloc o) w3 e v (m * size)) (hfr : ∀ g', v'.ownBlock = some g' → v.ownBlock = some g' ∨ (wr.alloc o).heap.size ≤ g') (hown : w3.ownsRow B e size v' (m + 1) (reps m (mk N) ++ mk N)) :
    MarkSt w w3 B kb mb cs mc eO e size mk Q N q vF vC vO v' (m + 1) := by
  have hsz := h.foot.size
  have hVb := own_block (h.rec_.list.alloc o)
  have hkbX : (wr.alloc o).heap[kb]? = some (Obj.cells (cs vO) 35 (0, 0)) := (heap_alloc_old wr o (lt_of_block h.book)).trans h.book
  refine ⟨(h.rec_.alloc o).grow hne hgr hk hfr (fun g hg => hQ g (by simp at hg; omega)) hown, ?_, ?_, ?_, h.oB, ?_⟩
  · exact (hgr.block kb (lt_of_block hkbX) (fun ee => by
      obtain ⟨c, hc⟩ := hVb kb ee.symm
      rw [hc] at hkbX
      simp at hkbX
      exact h35' hkbX.2)).trans hkbX
  · intro c hc
    have hm1 := h.mark c hc
    have hmX : (wr.alloc o).heap[mb]? = some (Obj.cells c e (0, 0)) := (heap_alloc_old wr o (lt_of_block hm1)).trans hm1
    refine (hgr.block mb (lt_of_block hmX) (fun ee => ?_)).trans hmX
    rcases h.vB mb ee.symm with r | r
    · exact hcm c hc r
    · omega
  · exact (h.foot.alloc o).grown hgr (fun g hg => (h.vB g hg).elim (fun r => .inr (.inl r)) (fun r => .inr (.inr r.1)))
  · intro g hg
    rcases hfr g hg with r | r
    · exact h.vB g r
    · right; simp at r; omega
/-- A field of the book, other than the lists', is set. -/
theorem MarkSt.field (h : MarkSt w wr B kb mb cs mc eO e size mk Q N q vF vC vO v m) (cs' : Value → Array Value) (f : Nat) (x : Value) (hcs : ∀ a, (cs a).setIfInBounds f x = cs' a) (h35 : eO ≠ 35) (h35' : e ≠ 35) (hkm : ∀ c, mc = some c → mb ≠ kb) :
    MarkSt w (wr.setCell ⟨kb, f, none⟩ x) B kb mb cs' mc eO e size mk Q N q vF vC vO v m := by
  refine ⟨h.rec_.setCell kb f x _ 35 h.book (fun ee => h35 ee.symm) (fun ee => h35' ee.symm), ?_, ?_, h.foot.setCell _ _ (.inl rfl), h.oB, h.vB⟩
  · rw [heap_setCell_same wr kb f _ 35 x h.book, hcs]
  · intro c hc
    rw [heap_setCell_other _ _ _ _ (hkm c hc)]
    exact h.mark c hc
end
theorem grown_setCell {w w' : World} {g i : Nat} (h : w.grownBy w' (some g)) (v : Value) : w.grownBy (w'.setCell ⟨g, i, none⟩ v) (some g) :=
  ⟨h.os, h.tape, h.output, by simpa using h.size, fun k hk hne => (heap_setCell_other _ _ _ _ (fun e => hne (by rw [e]))).trans (h.block k hk hne)⟩
theorem grown_refl (w : World) (r : Option Nat) : w.grownBy w r := ⟨rfl, rfl, rfl, Nat.le_refl _, fun _ _ _ => rfl⟩
theorem book_kept {w wr w3 : World} {B kb mb : Nat} {cs : Value → Array Value} {mc : Option (Array Value)} {eO e : TypeId} {size : Nat} {mk : Nat → List Value} {Q : Nat → Prop} {N q : Nat} {vF vC vO v : Value} {m : Nat} {Ls : List Value} {o : Obj}
    (h : MarkSt w wr B kb mb cs mc eO e size mk Q N q vF vC vO v m) (hLs : wr.ownsRow B eO 1 vO (N + q) Ls) (h35 : eO ≠ 35) (hgr : (wr.alloc o).grownBy w3 vO.ownBlock) : w3.heap[kb]? = wr.heap[kb]? := by
  have hkbX : (wr.alloc o).heap[kb]? = wr.heap[kb]? := heap_alloc_old wr o (lt_of_block h.book)
  refine (hgr.block kb (by rw [World.size_alloc]; have := lt_of_block h.book; omega) (fun ee => ?_)).trans hkbX
  obtain ⟨c, hc⟩ := own_block hLs kb ee.symm
  have := h.book
  rw [hc] at this
  simp at this
  exact h35 this.2
theorem foot_block {w w' : World} {kb : Nat} {vO vC : Value} {ck : Array Value} {tO tC : TypeId} (hF : Foot w w' kb vO vC) (hk : w.heap[kb]? = some (Obj.cells ck 35 (0, 0)))
    (hO : ∀ g, vO.ownBlock = some g → ∃ cur, w.heap[g]? = some (Obj.cells cur tO (0, 0))) (hC : ∀ g, vC.ownBlock = some g → ∃ cur, w.heap[g]? = some (Obj.cells cur tC (0, 0)))
    (g : Nat) (cur : Array Value) (t : TypeId) (hc : w.heap[g]? = some (Obj.cells cur t (0, 0))) (h1 : t ≠ 35) (h2 : t ≠ tO) (h3 : t ≠ tC) : w'.heap[g]? = w.heap[g]? := by
  refine hF.block g (lt_of_block hc) (fun ee => ?_) (fun ee => ?_) (fun ee => ?_)
  · rw [ee, hk] at hc
    simp at hc
    exact h1 hc.2.symm
  · obtain ⟨c, h⟩ := hO g ee
    rw [h] at hc
    simp at hc
    exact h2 hc.2.symm
  · obtain ⟨c, h⟩ := hC g ee
    rw [h] at hc
    simp at hc
    exact h3 hc.2.symm
theorem foot_lists {w w' : World} {kb : Nat} {vO vC : Value} {ck : Array Value} {tO tC : TypeId} (hF : Foot w w' kb vO vC) (hk : w.heap[kb]? = some (Obj.cells ck 35 (0, 0)))
    (hO : ∀ g, vO.ownBlock = some g → ∃ cur, w.heap[g]? = some (Obj.cells cur tO (0, 0))) (hC : ∀ g, vC.ownBlock = some g → ∃ cur, w.heap[g]? = some (Obj.cells cur tC (0, 0)))
    {B : Nat} {eO e : TypeId} {size : Nat} {mk : Nat → List Value} {v : Value} {N : Nat} {Q : Nat → Prop} (h : ListsIn w B eO e size mk v N Q) (h1 : eO ≠ 35 ∧ e ≠ 35) (h2 : eO ≠ tO ∧ e ≠ tO) (h3 : eO ≠ tC ∧ e ≠ tC) : ListsIn w' B eO e size mk v N Q :=
  h.carry (fun k cur t hc _ ht => by
    rcases ht with r | r
    · subst r; exact foot_block hF hk hO hC k cur t hc h1.1 h2.1 h3.1
    · subst r; exact foot_block hF hk hO hC k cur t hc h1.2 h2.2 h3.2)
theorem foot_own {w w' : World} {kb : Nat} {vO vC : Value} {ck : Array Value} {tO tC : TypeId} (hF : Foot w w' kb vO vC) (hk : w.heap[kb]? = some (Obj.cells ck 35 (0, 0)))
    (hO : ∀ g, vO.ownBlock = some g → ∃ cur, w.heap[g]? = some (Obj.cells cur tO (0, 0))) (hC : ∀ g, vC.ownBlock = some g → ∃ cur, w.heap[g]? = some (Obj.cells cur tC (0, 0)))
    {B : Nat} {e : TypeId} {size : Nat} {v : Value} {n : Nat} {xs : List Value} (h : w.ownsRow B e size v n xs) (h1 : e ≠ 35) (h2 : e ≠ tO) (h3 : e ≠ tC) : w'.ownsRow B e size v n xs :=
  own_same h (fun g hg => by obtain ⟨c, hc⟩ := own_block h g hg; exact foot_block hF hk hO hC g c e hc h1 h2 h3)
theorem lists_nil (w : World) (B : Nat) (eO e : TypeId) (size : Nat) (mk : Nat → List Value) (Q : Nat → Prop) : ListsIn w B eO e size mk (.slice none 0 0) 0 Q :=
  ⟨[], World.ownsRow_nil _ _ _ _, fun i u hu => by simp at hu⟩
theorem nil_block (w : World) (t : TypeId) : ∀ g, Value.ownBlock (.slice none 0 0) = some g → ∃ cur, w.heap[g]? = some (Obj.cells cur t (0, 0)) := fun g hg => by simp [Value.ownBlock] at hg
theorem lists_block {w : World} {B : Nat} {eO e : TypeId} {size : Nat} {mk : Nat → List Value} {v : Value} {N : Nat} {Q : Nat → Prop} (h : ListsIn w B eO e size mk v N Q) : ∀ g, v.ownBlock = some g → ∃ cur, w.heap[g]? = some (Obj.cells cur eO (0, 0)) := by
  obtain ⟨Ls, h1, _⟩ := h
  exact own_block h1
theorem lists_base {w : World} {B : Nat} {eO e : TypeId} {size : Nat} {mk : Nat → List Value} {v : Value} {N : Nat} {Q : Nat → Prop} (h : ListsIn w B eO e size mk v N Q) : ∀ g, v.ownBlock = some g → B ≤ g := by
  obtain ⟨Ls, h1, _⟩ := h
  exact fun g hg => (h1.lt g hg).1
theorem own_base {w : World} {B B' : Nat} {e : TypeId} {size : Nat} {v : Value} {n : Nat} {xs : List Value} (h : w.ownsRow B' e size v n xs) (hb : B ≤ B') : w.ownsRow B e size v n xs := by
  refine ⟨h.1, ?_⟩
  rcases h.2 with h0 | ⟨g, cap, cur, hv, hg, r⟩
  · exact .inl h0
  · exact .inr ⟨g, cap, cur, hv, Nat.le_trans hb hg, r⟩
theorem cell_four_new (w : World) (a b c d : Value) (t : TypeId) : ∀ j u, [a, b, c, d][j]? = some u → (w.alloc (.cells #[a, b, c, d] t)).cell? ((⟨w.heap.size, 0, none⟩ : Addr).add j) = some u := by
  intro j u hj
  match j, hj with
  | 0, hj => simp at hj; subst hj; simp [Addr.add]
  | 1, hj => simp at hj; subst hj; simp [Addr.add]
  | 2, hj => simp at hj; subst hj; simp [Addr.add]
  | 3, hj => simp at hj; subst hj; simp [Addr.add]
theorem flat_gen {α : Type} (enc : α → List Value) (size : Nat) (henc : ∀ x, (enc x).length = size) (l : List α) (q j : Nat) (h : q < l.length) (hj : j < size) : (l.flatMap enc)[q * size + j]? = (enc l[q])[j]? := by
  induction l generalizing q with
  | nil => exact absurd h (by simp)
  | cons x l ih =>
    rw [List.flatMap_cons]
    cases q with
    | zero => rw [Nat.zero_mul, Nat.zero_add, List.getElem?_append_left (by rw [henc]; exact hj)]; rfl
    | succ q =>
      have hm : (q + 1) * size = q * size + size := Nat.succ_mul q size
      rw [List.getElem?_append_right (by rw [henc]; omega), henc, show (q + 1) * size + j - size = q * size + j by omega]
      exact ih q (by simpa using h)
theorem flat_len {α : Type} (enc : α → List Value) (size : Nat) (henc : ∀ x, (enc x).length = size) (l : List α) : (l.flatMap enc).length = l.length * size := by
  induction l with
  | nil => simp
  | cons x l ih => rw [List.flatMap_cons, List.length_append, ih, henc, List.length_cons, Nat.succ_mul]; omega
end Go.Proofs.Ytcpldcojckhapaa
