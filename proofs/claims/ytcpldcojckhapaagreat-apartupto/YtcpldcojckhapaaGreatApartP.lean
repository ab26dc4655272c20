/-
  For every list of texts, every list of numbers and every number, of bulk at most 1048576 together, the law Apart of package latchkeep returns true: what comes over other lines, in whatever pieces and however wrong, does not change what a line is answered that reads what nobody writes. Condition: the bound on what comes in.
-/
import Derived.Test.YtcpldcojckhapaaGreatRows
import Derived.Test.YtcpldcojckhapaaGreatZm
import Derived.Deep.Strs
import Derived.Deep.Slices
import Derived.Laws.IdiomArrays
import Derived.Conc.LeavingOf
import Derived.WalkKit
import Derived.ProofKit
import Derived.OpenShut
import Derived.ShutString
import Derived.JoinedCond
import Derived.Carry
set_option maxRecDepth 100000
namespace Go.Proofs.YtcpldcojckhapaaGreat.apart
open Go.ChangeShapes Go.WideShapes Go.ChangeAt Go.RowKit Go.Deep Go.Conc
theorem own : ownKnob Tryz.prog.godebug = none := by kernel_rfl
theorem laidOut : laidOutB Tryz.prog = true := by kernel_rfl
theorem cellsOf3 : Tryz.prog.cellsOf 3 = 1 := by kernel_rfl
theorem cellsOf9 : Tryz.prog.cellsOf 9 = 1 := by kernel_rfl
theorem cell_lt {W : World} {b0 : Nat} {t e : TypeId} {a : Addr} {len cap : Nat} (ht : Tryz.prog.underlying t = some (.slice e)) (h : Cell.okWide Tryz.prog W .any b0 t (.slice (some a) len cap)) : a.block < W.heap.size := by
  unfold Cell.okWide at h
  rw [ht] at h
  unfold Cell.ok at h
  rw [ht] at h
  obtain ⟨_, _, _, _, row, cells, hs, _⟩ := h
  by_cases hl : a.block < W.heap.size
  . exact hl
  . exfalso
    have h0 : W.heap[a.block]? = none := Array.getElem?_eq_none (by omega)
    unfold World.shape? at hs
    rw [h0] at hs
    simp at hs
section
variable {H : Type} {enc : TypeId × Value -> H}
theorem bulk_len (xs : List (DataW H)) : xs.length <= Rows.uptoBulkAll xs := by
  induction xs with
  | nil => simp [Rows.uptoBulkAll]
  | cons x r ih =>
    have : 1 <= Rows.uptoBulk x := by
      cases x with
      | lit l => cases l <;> simp [Rows.uptoBulk]
      | _ => simp [Rows.uptoBulk]
    simp only [Rows.uptoBulkAll, List.length_cons]
    omega
theorem open_vals {W : World} {ad : Option Addr} {n k m : Nat} {y : DataW H} {p : List MemPlace} (h : DataW.trod enc Tryz.prog W 0 (fun _ => true) true m 28 [.slice ad n k] = some (y, p)) :
    ∃ ln : Nat -> Int, Vals W ad n ln /\ n <= Rows.uptoBulk y := by
  rcases open_ints Tryz.underlying28 Tryz.underlying3 cellsOf3 h with ⟨hcs, hx⟩ | ⟨a', len', cap', zs, hcs, hb, hl, hm, hz, hx, hcell, hwf⟩
  . simp only [List.cons.injEq, Value.slice.injEq, and_true] at hcs
    obtain ⟨rfl, rfl, rfl⟩ := hcs
    exact ⟨fun _ => 0, fun j hj => absurd hj (Nat.not_lt_zero _), Nat.zero_le _⟩
  . simp only [List.cons.injEq, Value.slice.injEq, and_true] at hcs
    obtain ⟨rfl, rfl, rfl⟩ := hcs
    have hzl : zs.length = k := by simpa using hz
    refine ⟨fun j => zs.getD j 0, fun j hj => ?_, ?_⟩
    . have hjz : j < zs.length := by omega
      have hc := hcell j hjz
      obtain ⟨b, off, spot⟩ := a'
      have hsp : spot = none := by
        have := World.cell?_spot (hcell 0 (by omega))
        simpa [Addr.add] using this
      subst hsp
      rw [Addr.add_lit] at hc
      have hw := bounds_i64 (hwf (zs.getD j 0) (by rw [List.getD_eq_getElem?_getD, List.getElem?_eq_getElem hjz]; exact List.getElem_mem hjz))
      exact ⟨b, off, rfl, World.block_lt_of_cell? W _ hc, hc, hw.1, hw.2⟩
    . simp only [Prod.mk.injEq] at hx
      rw [hx.1]
      have h1 := bulk_len (H := H) (lits .i64 (zs.take n))
      have h2 : (lits (H := H) .i64 (zs.take n)).length = n := by simp [lits]; omega
      simp only [Rows.uptoBulk]
      omega
theorem bulk_str (Sx : Nat -> ByteArray) : ∀ n k, apU (fun i => Sx (k + i)) n <= Rows.uptoBulkAll (H := H) ((List.range' k n).map fun i => DataW.lit (.string (Sx i).data.toList))
  | 0, _ => Nat.zero_le _
  | n + 1, k => by
    have h := bulk_str Sx n (k + 1)
    rw [List.range'_succ, List.map_cons]
    simp only [Rows.uptoBulkAll, Rows.uptoBulk]
    have e : ∀ m, apU (fun i => Sx (k + i)) (m + 1) = (Sx k).size + apU (fun i => Sx (k + 1 + i)) m := by
      intro m
      induction m with
      | zero => simp [apU]
      | succ m ih =>
        rw [apU, ih, apU, Nat.add_assoc]
        congr 2
        show (Sx (k + (m + 1))).size = (Sx (k + 1 + m)).size
        congr 2
        omega
    rw [e n]
    have hz : (Sx k).size = (Sx k).data.toList.length := Pl.size_list _
    omega
theorem apU_mono (f : Nat -> ByteArray) : ∀ n i, i <= n -> apU f i <= apU f n
  | 0, i, h => by obtain rfl : i = 0 := by omega
                  exact Nat.le_refl _
  | n + 1, i, h => by
    by_cases e : i = n + 1
    . subst e; exact Nat.le_refl _
    . have := apU_mono f n i (by omega)
      show _ <= apU f n + (f n).size
      omega
theorem apU_one (f : Nat -> ByteArray) (n i : Nat) (h : i < n) : (f i).size <= apU f n := by
  have h1 := apU_mono f n (i + 1) (by omega)
  have h2 : apU f (i + 1) = apU f i + (f i).size := rfl
  omega
theorem open_noise {W : World} {b0 : Nat} {v : Value} {d : DataW H} {p : List MemPlace} (hv : Value.okWide Tryz.prog W .any b0 30 v) (h : DataW.Trod enc Tryz.prog W 0 (fun _ => true) true 30 v d p) :
    ∃ (a2 : Option Addr) (nd k2 : Nat) (f : Nat -> ByteArray), v = .slice a2 nd k2 /\ ValA W a2 nd f /\ nd <= Rows.uptoBulk d /\ apU f nd <= Rows.uptoBulk d := by
  obtain ⟨a2, nd, k2, rfl⟩ := okWide_slice Tryz.underlying30 hv
  obtain ⟨fuel, hf⟩ := h
  have hlt : ∀ a, a2 = some a -> a.block < W.heap.size := fun a ha => by
    subst ha
    simp only [Value.okWide, Tryz.underlying30] at hv
    exact cell_lt Tryz.underlying30 hv
  rcases open_strs Tryz.underlying30 Tryz.underlying9 cellsOf9 hf with ⟨hcs, hx⟩ | ⟨a, len, cap, m, Sx, hcs, hb, hl, hm, hmm, hx, hcell⟩
  . simp [Value.cells] at hcs
    obtain ⟨rfl, rfl, rfl⟩ := hcs
    exact ⟨none, 0, 0, fun _ => ⟨#[]⟩, rfl, fun j hj => absurd hj (Nat.not_lt_zero _), Nat.zero_le _, Nat.zero_le _⟩
  . simp [Value.cells] at hcs
    obtain ⟨rfl, rfl, rfl⟩ := hcs
    simp only [if_true] at hmm
    subst hmm
    refine ⟨some a, nd, _, Sx, rfl, fun j hj => ?_, ?_, ?_⟩
    . have hc := (hcell j (by omega)).1
      obtain ⟨b, off, spot⟩ := a
      have hsp : spot = none := by
        have := World.cell?_spot (hcell 0 (by omega)).1
        simpa [Addr.add] using this
      subst hsp
      rw [Addr.add_lit] at hc
      exact ⟨b, off, rfl, hlt _ rfl, hc⟩
    . simp only [Prod.mk.injEq] at hx
      rw [hx.1]
      have h1 := bulk_len (H := H) ((List.range nd).map fun i => DataW.lit (.string (Sx i).data.toList))
      simp only [List.length_map, List.length_range] at h1
      simp only [Rows.uptoBulk]
      omega
    . simp only [Prod.mk.injEq] at hx
      rw [hx.1]
      have h1 := bulk_str (H := H) Sx nd 0
      simp only [Nat.zero_add] at h1
      rw [<- List.range_eq_range'] at h1
      have h2 : apU Sx nd <= Rows.uptoBulkAll (H := H) ((List.range nd).map fun i => DataW.lit (.string (Sx i).data.toList)) := h1
      simp only [Rows.uptoBulk]
      omega
end
theorem contract (H : Type) (enc : TypeId × Value -> H) (W : World) (base : Nat) (args : Array Value) (ds gs : List (DataW H)) (before : List MemPlace)
    (hval : ∀ (j : Nat) t v, Tryz.f6.params[j]? = some t -> args[j]? = some v -> Value.okWide Tryz.prog W .any base t v)
    (hW : DataW.Whole enc Tryz.prog Tryz.f6.params.toList Rows.apartSpec.vars false W args.toList ds gs before) (hk : Rows.uptoSmall H (ds ++ gs) = true) :
    ∃ M last o w' t', runNT Tryz.prog (M + 1) (solo (G (Frame.enter Tryz.prog 6 args .normal) []) W) #[] = (.ended o w', t') /\ runN Tryz.prog M (solo (G (Frame.enter Tryz.prog 6 args .normal) []) W) = .next last /\ step Tryz.prog last = .ended o w' /\
      Go.Conc.Good Tryz.prog (fun v W' => Rows.apartSpec.post enc Tryz.prog Tryz.f6 false true false false W.blind args v W'.blind) last o w' t' := by
  have hW' := hW
  obtain ⟨p, q, hA0, hV, rfl, hfz, hnd⟩ := hW
  have hA : DataW.TrodAll enc Tryz.prog W 0 (fun _ => true) true Tryz.f6.params.toList args.toList ds p := hA0
  rw [Tryz.params6] at hA hval
  obtain ⟨v0, vs0, d0, ds0, p0, q0, hargs, rfl, rfl, h0, r0⟩ := trodAll_cons hA
  obtain ⟨v1, vs1, d1, ds1, p1, q1, rfl, rfl, rfl, h1, r1⟩ := trodAll_cons r0
  obtain ⟨v2, vs2, d2, ds2, p2, q2, rfl, rfl, rfl, h2, r2⟩ := trodAll_cons r1
  obtain ⟨rfl, rfl, rfl⟩ := trodAll_nil r2
  obtain rfl : args = #[v0, v1, v2] := by cases args; simp_all
  obtain ⟨rfl, rfl⟩ := trodVars_none hV
  have k0 := h0
  have k1 := h1
  have k2 := h2
  have lt0 : ∀ x ∈ p0, x.block < W.heap.size := by obtain ⟨m, hm⟩ := k0; exact DataW.trod_lt m _ _ _ hm
  have lt1 : ∀ x ∈ p1, x.block < W.heap.size := by obtain ⟨m, hm⟩ := k1; exact DataW.trod_lt m _ _ _ hm
  have lt2 : ∀ x ∈ p2, x.block < W.heap.size := by obtain ⟨m, hm⟩ := k2; exact DataW.trod_lt m _ _ _ hm
  have hkb : Rows.uptoBulkAll ([d0, d1, d2] ++ []) <= 1048576 := by
    unfold Rows.uptoSmall at hk
    exact of_decide_eq_true hk
  simp only [List.append_nil, Rows.uptoBulkAll] at hkb
  obtain ⟨a0, n0, kk0, f, rfl, hno, hn0, hsum⟩ := open_noise (hval 0 30 v0 rfl rfl) h0
  obtain ⟨a1, n1, kk1, rfl⟩ := okWide_slice Tryz.underlying28 (hval 1 28 v1 rfl rfl)
  obtain ⟨fu1, hf1⟩ := h1
  obtain ⟨vals, hvals, hn1⟩ := open_vals hf1
  obtain ⟨x2, rfl⟩ : ∃ x2, v2 = .int .i64 x2 := by
    obtain ⟨x2, e, _⟩ := open_int Tryz.underlying3 (hval 2 3 v2 rfl rfl) h2
    exact ⟨x2, e⟩
  have hin : ApIn W W.heap.size a0 a1 n0 n1 f vals := ⟨rfl, hno, hvals, by omega, by omega, fun i hi => by have := apU_one f n0 i hi; omega, fun i hi => by have := apU_mono f n0 i hi; omega⟩
  refine law_good (f := 6) (fn := Tryz.f6) (t := 6) (c := _) Tryz.func6 rfl rfl (by kernel_rfl) (I := Heap W) ⟨rfl, rfl, rfl⟩ ?_
  refine (apart_tri a0 a1 n0 kk0 n1 kk1 x2 W W.heap.size f vals hin _ rfl).bind fun gs w' t hE => Runs.here ?_
  obtain ⟨a, k, hd, hB, h6, hs, hlow, hos, hou⟩ := hE
  refine ⟨a, k, hd, hB, fun dd => ?_⟩
  rw [h6]
  have bel : Below W.heap.size W (rt w' W.tape 0) := ⟨hos, rfl, hou, hs, hlow⟩
  have hp : Rows.apartSpec.post enc Tryz.prog Tryz.f6 false true false false W #[.slice a0 n0 kk0, .slice a1 n1 kk1, .int .i64 x2] (.bool true) (rt w' W.tape 0) :=
    ⟨_, _, _, [], _, [], hW', trodAll_mk1 (shut_bool Tryz.underlying4 _), (trodAll_cons_mk (Below.trod laidOut (by kernel_rfl) (of_decide_eq_true (by kernel_rfl)) k0 bel lt0) (trodAll_cons_mk (Below.trod laidOut (by kernel_rfl) (of_decide_eq_true (by kernel_rfl)) k1 bel lt1) (trodAll_cons_mk (Below.trod laidOut (by kernel_rfl) (of_decide_eq_true (by kernel_rfl)) k2 bel lt2) trodAll_mk0))), rfl, bel.frame _, fun h => by cases h⟩
  have hbl : (w'.at dd).blind = (rt w' W.tape 0).blind := rfl
  rw [hbl]
  exact ChangeSpec.post_blind hp
theorem lifted (os : Os) (started : os.Started) (H : Type) (enc : TypeId × Value -> H) (F : Stop.Interp) :
    ReturnsInLeavingWide {} Tryz.checked os 6 .any ((Rows.OpenSpec.upto Rows.apartSpec).pre6 enc Tryz.prog Tryz.f6 Rows.apartUptoRow.domain false) (((Rows.OpenSpec.upto Rows.apartSpec).at F).post enc Tryz.prog Tryz.f6 false true false false) := by
  refine returnsInLeavingWide_of_good own started
    (OpenSpec.witness (enc := enc) (C := Tryz.checked) (s := Rows.OpenSpec.upto Rows.apartSpec) (k := Rows.uptoSmall) rfl false ⟨#[], #[.slice none 0 0, .slice none 0 0, .int .i64 0], []⟩ 8 (by kernel_rfl) (by kernel_rfl) (by kernel_rfl)
      (x := ([.nil, .nil, .lit (.int .i64 0)], [], [])) (by kernel_rfl) rfl (by kernel_rfl)) ?_
  intro w tape i _ _ _ hok hpre _
  obtain ⟨_, _, _, fn', hfn', _, _, _, _, hval⟩ := hok
  have e : fn' = Tryz.f6 := Option.some.inj (hfn'.symm.trans Tryz.func6)
  subst e
  obtain ⟨ds, gs, before, hw, _, hkk⟩ := (OpenSpec.pre_some (s := Rows.OpenSpec.upto Rows.apartSpec) (k := Rows.uptoSmall) rfl Rows.apartUptoRow.domain false _ _).1 hpre.1
  have hw' := DataW.Whole.of_heap (w' := w.forCall tape i) (by rfl) hw
  exact contract H enc (w.forCall tape i) w.heap.size i.args ds gs before hval hw' hkk
theorem over : Rows.apartUptoRow.holds Tryz.pinned (Rows.OpenSpec.upto Rows.apartSpec) := by
  refine ⟨by kernel_rfl, rfl, rfl, rfl, laidOut, by kernel_rfl, ?_, ?_, 6, Tryz.f6, by kernel_rfl, Tryz.func6, of_decide_eq_true (by kernel_rfl), (fun h => by cases h), by kernel_rfl, of_decide_eq_true (by kernel_rfl), ?_, by kernel_rfl, ⟨by kernel_rfl, by kernel_rfl, by kernel_rfl⟩, by kernel_rfl, by kernel_rfl, by kernel_rfl, by kernel_rfl, by kernel_rfl, ⟨by kernel_rfl, by kernel_rfl, by kernel_rfl⟩, ⟨by kernel_rfl, by kernel_rfl⟩, ⟨by kernel_rfl, by kernel_rfl, by kernel_rfl, by kernel_rfl⟩, ⟨by kernel_rfl, by kernel_rfl, by kernel_rfl, by kernel_rfl⟩, by kernel_rfl, ?_, ?_, [], ?_, ?_⟩
  . show Tryz.prog.mayEnter = true
    kernel_rfl
  . exact ⟨rfl, rfl, rfl, rfl, rfl, rfl, rfl⟩
  . unfold Func.isWrapper
    first | (rw [if_pos (by decide +kernel)]; kernel_rfl) | (rw [if_neg (by decide +kernel)]; exact ⟨rfl, rfl⟩)
  . intro n hn
    cases hn
  . exact ⟨_, WideRow.started_initial, fun k hk => by cases hk⟩
  . rfl
  . intro os st hq H enc inj
    rw [OpenClaim.post_not_still rfl]
    intro F
    exact lifted os st H enc F (by kernel_rfl)
end Go.Proofs.YtcpldcojckhapaaGreat.apart
namespace Go.Proofs.YtcpldcojckhapaaGreat
theorem apart_holds : Rows.ApartUptoSaid := apart.over
#print axioms apart_holds
end Go.Proofs.YtcpldcojckhapaaGreat
