/-
  For every config, every disk and every operation, of bulk at most 1048576 together, the law Opens of package latchlaw returns true: sectors that are not 64 bytes long, or too few, or too many, are refused; else a device is opened, with entries that may be; and what is written then, and flushed, outlasts a loss of power. Condition: the bound on what comes in.
-/
import Derived.Test.YtcpldcojckhapaaGreatRows
import Derived.WalkKit
import Derived.ProofKit
import Derived.OpenShut
import Derived.ShutString
import Derived.JoinedCond
import Derived.Deep.Strs
import Derived.Deep.Slices
import Derived.Carry
import Derived.Test.YtcpldcojckhapaaGreatJ51
namespace Go.Proofs.YtcpldcojckhapaaGreat.opens
open Go.ChangeShapes Go.WideShapes Go.ChangeAt Go.RowKit
open Go.Deep
theorem own : ownKnob Tryz.prog.godebug = none := by kernel_rfl
theorem laidOut : laidOutB Tryz.prog = true := by kernel_rfl
set_option maxRecDepth 100000 in
theorem contract (H : Type) (enc : TypeId × Value -> H) (W : World) (base : Nat) (args : Array Value) (ds gs : List (DataW H)) (before : List MemPlace)
    (hval : ∀ (j : Nat) t v, Tryz.f4.params[j]? = some t -> args[j]? = some v -> Value.okWide Tryz.prog W .any base t v)
    (hW : DataW.Whole enc Tryz.prog Tryz.f4.params.toList Rows.opensSpec.vars false W args.toList ds gs before) (hk : Rows.uptoSmall H (ds ++ gs) = true) :
    Calls Tryz.prog 4 args W fun e W' => ∃ v, e = .returned v /\ Rows.opensSpec.post enc Tryz.prog Tryz.f4 false true false false W args v W' := by
  have hW' := hW
  obtain ⟨p, q, hA0, hV, rfl, hfz, hnd⟩ := hW
  have hA : DataW.TrodAll enc Tryz.prog W 0 (fun _ => true) true Tryz.f4.params.toList args.toList ds p := hA0
  rw [Tryz.params4] at hA hval
  obtain ⟨v0, vs0, d0, ds0, p0, q0, hargs, rfl, rfl, h0, r0⟩ := trodAll_cons hA
  obtain ⟨v1, vs1, d1, ds1, p1, q1, rfl, rfl, rfl, h1, r1⟩ := trodAll_cons r0
  obtain ⟨v2, vs2, d2, ds2, p2, q2, rfl, rfl, rfl, h2, r2⟩ := trodAll_cons r1
  obtain ⟨rfl, rfl, rfl⟩ := trodAll_nil r2
  obtain rfl : args = #[v0, v1, v2] := by cases args; simp_all
  obtain ⟨rfl, rfl⟩ := trodVars_none hV
  have k0 := h0
  have k1 := h1
  have k2 := h2
  have lt0 : ∀ x ∈ p0, x.block < W.heap.size := by obtain ⟨m, hm⟩ := k0; exact DataW.trod_lt m _ _ _ hm
  have lt1 : ∀ x ∈ p1, x.block < W.heap.size := by obtain ⟨m, hm⟩ := k1; exact DataW.trod_lt m _ _ _ hm
  have lt2 : ∀ x ∈ p2, x.block < W.heap.size := by obtain ⟨m, hm⟩ := k2; exact DataW.trod_lt m _ _ _ hm
  have hkb : Rows.uptoBulkAll ([d0, d1, d2] ++ []) <= 1048576 := by
    unfold Rows.uptoSmall at hk
    exact of_decide_eq_true hk
  simp only [List.append_nil, Rows.uptoBulkAll] at hkb
  obtain ⟨s0, s1, s2, s3, c, h, u, b, ad, n, k, y, m, p4, rfl, hy, hyb, hlt⟩ := open_cfg (hval 0 39 v0 rfl rfl) h0
  obtain ⟨ln, hv, hsrc, hn⟩ := open_lines hy
  obtain ⟨a2, nd, kd, f, rfl, hdt, hd, hnd2, hlt2⟩ := open_disk (hval 1 30 v1 rfl rfl) h1
  obtain ⟨o, rfl, hor, hos⟩ := open_op (hval 2 42 v2 rfl rfl) h2
  have hi : OpIn W ad a2 n k nd kd ln f := ⟨hv, hsrc, hlt, by omega, hd, hdt, hlt2, by omega⟩
  have main : Calls Tryz.prog 4 #[.agg #[.int .i64 s0, .int .i64 s1, .int .i64 s2, .int .i64 s3, .int .i64 c, .int .i64 h, .int .i64 u, .slice ad n k, .int .i64 b], .slice a2 nd kd, .agg (opA o)] W fun e w' => e = .returned (.bool true) /\ Below W.heap.size W w' := by
    by_cases hno : CfgOk s0 s1 s2 s3 c h u n ln b
    . by_cases hbad : BadDisk nd (2 * max 1 (((c.toNat + 7) / 8 + 2 * h.toNat + 61) / 62)) f
      . exact opens_no W s0 s1 s2 s3 c h u b n k nd kd ad a2 ln f o hi (.inr ⟨hno, hbad⟩)
      . obtain ⟨F, hF, rfl, rfl, rfl, rfl, rfl, rfl, rfl, rfl, rfl, hln⟩ := hno.cf
        have hi' : OpIn W ad a2 F.n k nd kd (fun j => ((F.kn j : Nat) : Int)) f := by
          refine ⟨fun j hj => ?_, ?_, hlt, hi.hn, hd, hdt, hlt2, hi.hnd⟩
          . obtain ⟨g, o, h1, h2, h3, h4⟩ := hv j hj
            rw [hln j hj] at h3 h4
            exact ⟨g, o, h1, h2, h3, h4⟩
          . have e : (List.range F.n).map ln = (List.range F.n).map (fun j => ((F.kn j : Nat) : Int)) := List.map_congr_left fun j hj => hln j (List.mem_range.1 hj)
            rw [<- e]
            exact hsrc
        unfold BadDisk at hbad
        have hnd3 : 2 * F.sec <= nd /\ nd <= 64 := by
          have e : F.sec = max 1 (((F.c + 7) / 8 + 2 * F.h + 61) / 62) := rfl
          simp only [Int.toNat_natCast] at hbad
          rw [e]
          omega
        exact opens_yes W F k nd kd ad a2 f o hi' hF hnd3 (fun j hj => by
          by_cases hz : (f j).size = 64
          . exact hz
          . exact absurd (.inr (.inr ⟨j, hj, hz⟩)) hbad) hor (by omega)
    . exact opens_no W s0 s1 s2 s3 c h u b n k nd kd ad a2 ln f o hi (.inl hno)
  refine main.mono fun e W' ⟨he, bel⟩ => ?_
  subst he
  exact ⟨_, rfl, _, _, _, [], _, [], hW', trodAll_mk1 (shut_bool Tryz.underlying4 _), (trodAll_cons_mk (Below.trod laidOut (by kernel_rfl) (of_decide_eq_true (by kernel_rfl)) k0 bel lt0) (trodAll_cons_mk (Below.trod laidOut (by kernel_rfl) (of_decide_eq_true (by kernel_rfl)) k1 bel lt1) (trodAll_cons_mk (Below.trod laidOut (by kernel_rfl) (of_decide_eq_true (by kernel_rfl)) k2 bel lt2) trodAll_mk0))), rfl, bel.frame _, fun h => by cases h⟩
set_option maxRecDepth 100000 in
theorem lifted (os : Os) (started : os.Started) (H : Type) (enc : TypeId × Value -> H) (F : Stop.Interp) :
    ReturnsInHanded {} Tryz.checked os 4 .any ((Rows.OpenSpec.upto Rows.opensSpec).pre6 enc Tryz.prog Tryz.f4 Rows.opensUptoRow.domain false) (((Rows.OpenSpec.upto Rows.opensSpec).at F).post enc Tryz.prog Tryz.f4 false true false false) := by
  refine returnsInHanded_of_cond (C := Tryz.checked) (s := Rows.OpenSpec.upto Rows.opensSpec) (k := Rows.uptoSmall) rfl own started (by kernel_rfl) Tryz.func4
    (OpenSpec.witness (enc := enc) (C := Tryz.checked) (s := Rows.OpenSpec.upto Rows.opensSpec) (k := Rows.uptoSmall) rfl false ⟨#[], #[.agg #[.int .i64 0, .int .i64 0, .int .i64 0, .int .i64 0, .int .i64 0, .int .i64 0, .int .i64 0, .slice none 0 0, .int .i64 0], .slice none 0 0, .agg #[.int .i64 0, .int .i64 0, .int .i64 0, .int .i64 0, .int .i64 0, .string .empty, .int .i64 0, .int .i64 0, .int .i64 0, .int .i64 0, .int .i64 0, .int .i64 0, .int .i64 0, .slice none 0 0, .int .i64 0, .int .i64 0, .int .i64 0, .int .i64 0, .int .i64 0, .int .i64 0]], []⟩ 8 (by kernel_rfl) (by kernel_rfl) (by kernel_rfl)
      (x := ([.agg [.agg [.lit (.int .i64 0), .lit (.int .i64 0), .lit (.int .i64 0), .lit (.int .i64 0)], .lit (.int .i64 0), .lit (.int .i64 0), .lit (.int .i64 0), .nil, .lit (.int .i64 0)], .nil, .agg [.lit (.int .i64 0), .lit (.int .i64 0), .lit (.int .i64 0), .lit (.int .i64 0), .lit (.int .i64 0), .lit (.string []), .agg [.agg [.lit (.int .i64 0), .lit (.int .i64 0), .lit (.int .i64 0), .lit (.int .i64 0)], .lit (.int .i64 0), .lit (.int .i64 0), .lit (.int .i64 0), .nil, .lit (.int .i64 0)], .lit (.int .i64 0), .lit (.int .i64 0), .lit (.int .i64 0), .lit (.int .i64 0), .lit (.int .i64 0)]], [], [])) (by kernel_rfl) rfl (by kernel_rfl)) ?_
  intro W base args ds gs before hval hW _ hk _
  exact contract H enc W base args ds gs before hval hW hk
theorem over : Rows.opensUptoRow.holds Tryz.pinned (Rows.OpenSpec.upto Rows.opensSpec) :=
  row_leaving (by kernel_rfl) rfl rfl (OpenClaim.holds_of_cond 4 Tryz.f4 rfl rfl rfl rfl rfl rfl rfl ⟨rfl, rfl, rfl, rfl, rfl⟩ rfl rfl rfl rfl rfl (by kernel_rfl) Tryz.func4 (by kernel_rfl)
    (of_decide_eq_true (by kernel_rfl)) (by unfold Func.isWrapper; first | (rw [if_pos (by decide +kernel)]; kernel_rfl) | (rw [if_neg (by decide +kernel)]; exact ⟨rfl, rfl⟩))
    (fun os started H enc _ F => lifted os started H enc F)) rfl
end Go.Proofs.YtcpldcojckhapaaGreat.opens
namespace Go.Proofs.YtcpldcojckhapaaGreat
theorem opens_holds : Rows.OpensUptoSaid := opens.over
#print axioms opens_holds
end Go.Proofs.YtcpldcojckhapaaGreat
