/-
  For every list of requests and all numbers, of bulk at most 1048576 together, the law Framed of package latchkeep returns true: what went in as requests comes out, what is cut off is none yet, and with another byte it is none. Condition: the bound on what comes in.
-/
import Derived.Test.YtcpldcojckhapaaRows
import Derived.Test.YtcpldcojckhapaaFrd
import Derived.WalkKit
import Derived.ProofKit
import Derived.OpenShut
import Derived.ShutString
import Derived.ChangeOld
import Derived.Below
import Derived.JoinedCond
import Derived.Deep.Strs
import Derived.Deep.Slices
set_option maxRecDepth 100000
namespace Go.Proofs.Ytcpldcojckhapaa.framed
open Go.ChangeShapes Go.WideShapes Go.ChangeAt Go.RowKit
open Go.ChangeMaps (open_string shut_string)
open Go.Deep

theorem own : ownKnob Try.prog.godebug = none := by kernel_rfl
theorem laidOut : laidOutB Try.prog = true := by kernel_rfl
theorem cells48 : Try.prog.cellsOf 54 = 3 := by kernel_rfl
theorem cells3 : Try.prog.cellsOf 3 = 1 := by kernel_rfl
theorem cells9 : Try.prog.cellsOf 9 = 1 := by kernel_rfl

/-- What one that was sent reads as. -/
def dat {H : Type} (x : Int × Int × ByteArray) : DataW H := .agg [.lit (.int .i64 x.1), .lit (.int .i64 x.2.1), .lit (.string x.2.2.data.toList)]
theorem bulk_dat {H : Type} (x : Int × Int × ByteArray) : Rows.uptoBulk (dat (H := H) x) = x.2.2.size + 4 := by
  have e : x.2.2.data.toList.length = x.2.2.size := (Pl.size_list _).symm
  simp only [dat, Rows.uptoBulk, Rows.uptoBulkAll, e]
  omega
theorem bulk_map {H : Type} (L : List (Int × Int × ByteArray)) : Rows.uptoBulkAll (L.map (dat (H := H))) = (L.map fun x => x.2.2.size + 4).sum := by
  induction L with
  | nil => rfl
  | cons x L ih => rw [List.map_cons, List.map_cons, List.sum_cons, Rows.uptoBulkAll, bulk_dat, ih]
theorem sum_enc (L : List (Int × Int × ByteArray)) : ((L.map toF).flatMap Pl.encL).length ≤ 2 * (L.map fun x => x.2.2.size + 4).sum := by
  induction L with
  | nil => exact Nat.zero_le _
  | cons x L ih =>
    rw [List.map_cons, List.flatMap_cons, List.length_append, List.map_cons, List.sum_cons]
    have h1 := bodyB_size x.2.2
    have h2 : (Pl.encL (toF x)).length = 7 + (bodyB x.2.2).size := by unfold Pl.encL toF; rw [← Pl.size_list, Pl.streamB_size]
    omega
theorem sum_len (L : List (Int × Int × ByteArray)) : 4 * L.length ≤ (L.map fun x => x.2.2.size + 4).sum := by
  induction L with
  | nil => exact Nat.zero_le _
  | cons x L ih => rw [List.map_cons, List.sum_cons, List.length_cons]; omega
theorem sum_mem (L : List (Int × Int × ByteArray)) (x : Int × Int × ByteArray) (h : x ∈ L) : x.2.2.size + 4 ≤ (L.map fun x => x.2.2.size + 4).sum := by
  induction L with
  | nil => cases h
  | cons y L ih =>
    rw [List.map_cons, List.sum_cons]
    cases List.mem_cons.1 h with
    | inl e => subst e; omega
    | inr e => have := ih e; omega

/-- The argument: opened. -/
theorem open_sent {H : Type} {enc : TypeId × Value → H} {W : World} {a : Option Addr} {len cap : Nat} {d : DataW H} {p : List MemPlace} (h : DataW.Trod enc Try.prog W 0 (fun _ => true) true 53 (.slice a len cap) d p) :
    ∃ L : List (Int × Int × ByteArray), L.length = len ∧ (L.map fun x => x.2.2.size + 4).sum ≤ Rows.uptoBulk d ∧
      ∀ (i : Nat) (x : Int × Int × ByteArray), L[i]? = some x → ∃ b off, a = some ⟨b, off, none⟩ ∧ b < W.heap.size ∧ W.cell? ⟨b, off + i * 3, none⟩ = some (.int .i64 x.1) ∧ W.cell? ⟨b, off + i * 3 + 1, none⟩ = some (.int .i64 x.2.1) ∧ W.cell? ⟨b, off + i * 3 + 2, none⟩ = some (.string x.2.2) ∧ (Lit.int .i64 x.1).wf = true ∧ (Lit.int .i64 x.2.1).wf = true := by
  obtain ⟨fuel, hf⟩ := h
  rcases open_slice Try.underlying53 hf with ⟨hcs, hx⟩ | ⟨a', len', cap', m, n, D, Q, hcs, hb, hl, hm, hmm, hx, hel⟩
  · simp [Value.cells] at hcs
    obtain ⟨rfl, rfl, rfl⟩ := hcs
    exact ⟨[], rfl, Nat.zero_le _, fun i x hx => by simp at hx⟩
  · simp [Value.cells] at hcs
    obtain ⟨rfl, rfl, rfl⟩ := hcs
    have hmc : m = cap := by simpa using hmm
    subst hmc
    have hone : ∀ i, i < len → ∃ x : Int × Int × ByteArray, D i = dat x ∧ (∃ b off, a' = ⟨b, off, none⟩ ∧ b < W.heap.size ∧ W.cell? ⟨b, off + i * 3, none⟩ = some (.int .i64 x.1) ∧ W.cell? ⟨b, off + i * 3 + 1, none⟩ = some (.int .i64 x.2.1) ∧ W.cell? ⟨b, off + i * 3 + 2, none⟩ = some (.string x.2.2)) ∧ (Lit.int .i64 x.1).wf = true ∧ (Lit.int .i64 x.2.1).wf = true := by
      intro i hi
      obtain ⟨cs', hc, ht⟩ := hel i (by omega)
      rw [cells48] at hc
      obtain ⟨_, hcl, hcc⟩ := World.cells?_some hc
      obtain ⟨y0, y1, y2, n', hy, _, t0, t1, t2⟩ := trod_struct3 Try.underlying54 ht
      simp only [cells3, cells9] at t0 t1 t2
      match cs', hcl with
      | [e0, e1, e2], _ =>
        obtain ⟨x0, g0, rfl, wf0⟩ := DataW.trod_int Try.underlying3 t0
        obtain ⟨x1, g1, rfl, wf1⟩ := DataW.trod_int Try.underlying3 t1
        obtain ⟨x2, g2, rfl, _⟩ := DataW.trod_string Try.underlying9 t2
        simp at g0 g1 g2
        subst g0 g1 g2
        have c0 := hcc 0 (by omega)
        have c1 := hcc 1 (by omega)
        have c2 := hcc 2 (by omega)
        simp at c0 c1 c2
        obtain ⟨b, off, spot⟩ := a'
        have hsp : spot = none := by
          obtain ⟨cs0, hc0, _⟩ := hel 0 (by omega)
          rw [cells48] at hc0
          obtain ⟨_, hl0, hcc0⟩ := World.cells?_some hc0
          have h00 := hcc0 0 (by omega)
          rw [List.getElem?_eq_getElem (by omega)] at h00
          have := World.cell?_spot h00
          simpa [Addr.add] using this
        subst hsp
        refine ⟨(x0, x1, x2), ?_, ⟨b, off, rfl, ?_, ?_, ?_, ?_⟩, wf0, wf1⟩
        · have := congrArg Prod.fst hy
          simpa [dat] using this
        · have := World.block_lt_of_cell? W _ c1
          simpa [Addr.add_lit] using this
        · simpa [Addr.add_lit] using c0
        · simpa [Addr.add_lit, Nat.add_assoc] using c1
        · simpa [Addr.add_lit, Nat.add_assoc] using c2
    obtain ⟨X, hX⟩ := choose_lt hone
    refine ⟨(List.range len).map X, by simp, ?_, ?_⟩
    · have hd : d = .slice ((List.range len).map D) ((List.range (m - len)).map fun j => D (len + j)) := congrArg Prod.fst hx
      rw [hd, Rows.uptoBulk]
      have e1 : (List.range len).map D = ((List.range len).map X).map dat := by
        rw [List.map_map]
        exact List.map_congr_left fun i hi => (hX i (List.mem_range.1 hi)).1
      rw [e1, bulk_map]
      omega
    · intro i x hx
      have hi : i < len := by
        have := (List.getElem?_eq_some_iff.1 hx).1
        simpa using this
      have hxx : X i = x := by simpa [hi] using hx
      subst hxx
      obtain ⟨_, ⟨b, off, rfl, r1, r2, r3, r4⟩, r5, r6⟩ := hX i hi
      exact ⟨b, off, rfl, r1, r2, r3, r4, r5, r6⟩

theorem contract (H : Type) (enc : TypeId × Value → H) (W : World) (base : Nat) (args : Array Value) (ds gs : List (DataW H)) (before : List MemPlace)
    (hval : ∀ (j : Nat) t v, Try.f6.params[j]? = some t → args[j]? = some v → Value.okWide Try.prog W .any base t v)
    (hW : DataW.Whole enc Try.prog Try.f6.params.toList Rows.framedSpec.vars false W args.toList ds gs before) (hk : Rows.uptoSmall H (ds ++ gs) = true) :
    Calls Try.prog 6 args W fun e W' => ∃ v, e = .returned v ∧ Rows.framedSpec.post enc Try.prog Try.f6 false true false false W args v W' := by
  have hW' := hW
  obtain ⟨p, q, hA0, hV, rfl, hfz, hnd⟩ := hW
  have hA : DataW.TrodAll enc Try.prog W 0 (fun _ => true) true Try.f6.params.toList args.toList ds p := hA0
  rw [Try.params6] at hA hval
  obtain ⟨v0, vs0, d0, ds0, p0, q0, hargs, rfl, rfl, h0, r0⟩ := trodAll_cons hA
  obtain ⟨v1, vs1, d1, ds1, p1, q1, rfl, rfl, rfl, h1, r1⟩ := trodAll_cons r0
  obtain ⟨v2, vs2, d2, ds2, p2, q2, rfl, rfl, rfl, h2, r2⟩ := trodAll_cons r1
  obtain ⟨v3, vs3, d3, ds3, p3, q3, rfl, rfl, rfl, h3, r3⟩ := trodAll_cons r2
  obtain ⟨rfl, rfl, rfl⟩ := trodAll_nil r3
  obtain rfl : args = #[v0, v1, v2, v3] := by cases args; simp_all
  obtain ⟨rfl, rfl⟩ := trodVars_none hV
  obtain ⟨a0, len0, cap0, rfl⟩ := okWide_slice Try.underlying53 (hval 0 53 v0 rfl rfl)
  have k0 := h0
  have lt0 : ∀ x ∈ p0, x.block < W.heap.size := by obtain ⟨m, hm⟩ := k0; exact DataW.trod_lt m _ _ _ hm
  obtain ⟨L, hL, hsum, hcell⟩ := open_sent h0
  obtain ⟨a1, rfl, rfl, rfl, w1⟩ := open_int Try.underlying3 (hval 1 3 v1 rfl rfl) h1
  obtain ⟨a2, rfl, rfl, rfl, w2⟩ := open_int Try.underlying3 (hval 2 3 v2 rfl rfl) h2
  obtain ⟨a3, rfl, rfl, rfl, w3⟩ := open_int Try.underlying3 (hval 3 3 v3 rfl rfl) h3
  have hkb : Rows.uptoBulkAll ([d0, .lit (.int .i64 a1), .lit (.int .i64 a2), .lit (.int .i64 a3)] ++ []) ≤ 1048576 := of_decide_eq_true hk
  have hd0 : Rows.uptoBulk d0 ≤ 1048576 := by
    simp only [List.append_nil, Rows.uptoBulkAll] at hkb
    omega
  have hI : IsSent W a0 L := by
    intro i x hx
    obtain ⟨b, off, e, r1, r2, r3, r4, r5, r6⟩ := hcell i x hx
    have b1 := bounds_i64 r5
    have b2 := bounds_i64 r6
    have hm := sum_mem L x (List.mem_of_getElem? hx)
    exact ⟨b, off, e, r1, r2, r3, r4, b1.1, b1.2, b2.1, b2.2, by omega⟩
  have hlen := sum_len L
  have henc := sum_enc L
  clear hA0
  refine (framed_walk a0 len0 cap0 L a1 a2 a3 W hL hI (by omega) (bounds_i64 w1) (bounds_i64 w2) (bounds_i64 w3) (by omega)).mono fun e W' ⟨he, bel⟩ => ?_
  subst he
  exact ⟨_, rfl, _, _, _, [], _, [], hW', trodAll_mk1 (shut_bool Try.underlying4 _), (trodAll_cons_mk (Below.trod laidOut (by kernel_rfl) (of_decide_eq_true (by kernel_rfl)) k0 bel lt0) (trodAll_cons_mk (shut_int Try.underlying3 w1) (trodAll_cons_mk (shut_int Try.underlying3 w2) (trodAll_cons_mk (shut_int Try.underlying3 w3) trodAll_mk0)))), rfl, bel.frame _, fun h => by cases h⟩

set_option maxRecDepth 100000 in
theorem lifted (os : Os) (started : os.Started) (H : Type) (enc : TypeId × Value → H) (F : Stop.Interp) :
    ReturnsInHanded {} Try.checked os 6 .any ((Rows.OpenSpec.upto Rows.framedSpec).pre6 enc Try.prog Try.f6 Rows.framedUptoRow.domain false) (((Rows.OpenSpec.upto Rows.framedSpec).at F).post enc Try.prog Try.f6 false true false false) := by
  refine returnsInHanded_of_cond (C := Try.checked) (s := Rows.OpenSpec.upto Rows.framedSpec) (k := Rows.uptoSmall) rfl own started (by kernel_rfl) Try.func6
    (OpenSpec.witness (enc := enc) (C := Try.checked) (s := Rows.OpenSpec.upto Rows.framedSpec) (k := Rows.uptoSmall) rfl false ⟨#[], #[.slice none 0 0, .int .i64 0, .int .i64 0, .int .i64 0], []⟩ 8 (by kernel_rfl) (by kernel_rfl) (by kernel_rfl)
      (x := ([.nil, .lit (.int .i64 0), .lit (.int .i64 0), .lit (.int .i64 0)], [], [])) (by kernel_rfl) rfl (by kernel_rfl)) ?_
  intro W base args ds gs before hval hW _ hk _
  exact contract H enc W base args ds gs before hval hW hk

end Go.Proofs.Ytcpldcojckhapaa.framed
namespace Go.Proofs.Ytcpldcojckhapaa
/-- The given statement. -/
theorem framed_holds : Rows.FramedUptoSaid :=
  OpenClaim.holds_of_cond 6 Try.f6 rfl rfl rfl rfl rfl rfl rfl ⟨rfl, rfl, rfl, rfl, rfl⟩ rfl rfl rfl rfl rfl (by kernel_rfl) Try.func6 (by kernel_rfl)
    (of_decide_eq_true (by kernel_rfl)) (by unfold Func.isWrapper; first | (rw [if_pos (by decide +kernel)]; kernel_rfl) | (rw [if_neg (by decide +kernel)]; exact ⟨rfl, rfl⟩))
    (fun os started H enc _ F => framed.lifted os started H enc F)
#print axioms framed_holds
end Go.Proofs.Ytcpldcojckhapaa
