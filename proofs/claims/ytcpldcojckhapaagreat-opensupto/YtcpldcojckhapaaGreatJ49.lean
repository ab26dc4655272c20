/-
  
-/
import Derived.Test.YtcpldcojckhapaaGreatS8
import Derived.Test.YtcpldcojckhapaaGreatJ48
set_option maxRecDepth 100000
namespace Go.Proofs.YtcpldcojckhapaaGreat
open Go.RowKit
def ops15 : Array Oper := #[{ dst := some 94, op := .move (.tmp 0), type := 34, pos := "device.go:279", after := #[], guard := none },
  { dst := some 95, op := .move (.tmp 12), type := 31, pos := "device.go:279", after := #[], guard := none },
  { dst := some 96, op := .move (.tmp 0), type := 34, pos := "device.go:279", after := #[], guard := none },
  { dst := some 97, op := .nilCheck (.tmp 96), type := 0, pos := "device.go:279", after := #[{ on := 2, ground := .data }], guard := none },
  { dst := some 98, op := .fieldAddr 52 (.tmp 97) 1, type := 0, pos := "device.go:279", after := #[{ on := 3, ground := .data }], guard := none },
  { dst := some 99, op := .load 50 (.tmp 98), type := 50, pos := "device.go:279", after := #[{ on := 4, ground := .data }], guard := none },
  { dst := some 100, op := .call { callee := .value (.func 35), args := #[.tmp 99], argTypes := #[50] }, type := 46, pos := "device.go:279", after := #[{ on := 5, ground := .data }], guard := none },
  { dst := some 101, op := .load 42 (.tmp 4), type := 42, pos := "device.go:279", after := #[], guard := none },
  { dst := some 102, op := .move (.tmp 2), type := 23, pos := "device.go:279", after := #[], guard := none },
  { dst := some 103, op := .call { callee := .value (.func 33), args := #[.tmp 94, .tmp 95, .tmp 100, .tmp 101, .tmp 102], argTypes := #[34, 31, 46, 42, 23] }, type := 4, pos := "device.go:279", after := #[{ on := 0, ground := .data }, { on := 1, ground := .data }, { on := 6, ground := .data }, { on := 7, ground := .data }, { on := 8, ground := .data }, { on := 6, ground := .chain }], guard := none },
  { dst := some 6, op := .assign (.tmp 103), type := 4, pos := "device.go:279", after := #[{ on := 9, ground := .data }, { on := 9, ground := .chain }, { on := 0, ground := .phase }, { on := 1, ground := .phase }, { on := 2, ground := .phase }, { on := 3, ground := .phase }, { on := 4, ground := .phase }, { on := 5, ground := .phase }, { on := 6, ground := .phase }, { on := 7, ground := .phase }, { on := 8, ground := .phase }, { on := 9, ground := .phase }], guard := none }]
theorem ev_put (a : Act) (k j : Nat) (v : Value) (hk : k < a.tmps.size) : (a.put (some k) v).eval (.tmp j) = if j = k then v else a.eval (.tmp j) := by
  show (a.tmps.setIfInBounds k v).getD j undef = if j = k then v else a.tmps.getD j undef
  rw [Array.getD_eq_getD_getElem?, Array.getD_eq_getD_getElem?, Array.getElem?_setIfInBounds]
  by_cases h : j = k
  . subst h; simp [hk]
  . rw [if_neg (fun e => h e.symm), if_neg h]
theorem sz_put (a : Act) (k : Nat) (v : Value) : (a.put (some k) v).tmps.size = a.tmps.size := by
  show (a.tmps.setIfInBounds k v).size = _
  simp
theorem step_load42 {ops : Array Oper} {o : Oper} {a : Act} {w : World} {K : Act -> World -> Prop} {Q : Exit -> Act -> World -> Prop} {E : Prop} (hg : o.guard = none) (t : Nat) (ho : o.op = .load 42 (.tmp t)) (g : Nat) (he : a.eval (.tmp t) = .pointer (some ⟨g, 0, none⟩)) (x : OpV) (hb : w.heap[g]? = some (.cells (opA x) 42 (0, 0))) (h : K (a.put o.dst (.agg (opA x))) w) :
    if Region.wanted o (yielded ops a.tmps) = true then Oper.wp Tryz.prog o a w K Q else E := by
  have hw : Region.wanted o (yielded ops a.tmps) = true := by simp [Region.wanted, hg]
  rw [if_pos hw]
  unfold Oper.wp execOp
  simp only [ho, he, Sem.run_bind, load42 w g x hb, Result.andThen_ok, Sem.run_pure]
  exact h
theorem enter35 (x : Value) (w : World) : (callFunc 35 #[x]).run Tryz.prog w = .ok (.enter 35 #[x]) w := by kernel_rfl
theorem enter33 (x1 x2 x3 x4 x5 : Value) (w : World) : (callFunc 33 #[x1, x2, x3, x4, x5]).run Tryz.prog w = .ok (.enter 33 #[x1, x2, x3, x4, x5]) w := by kernel_rfl
theorem fieldAt52 (g : Nat) (w : World) : (Instr.fieldAt 52 (.pointer (some ⟨g, 0, none⟩)) 1).run Tryz.prog w = .ok (.pointer (some ⟨g, 1, none⟩)) w := by go_simp
theorem load50 (g : Nat) (v : Value) (w : World) (h : w.cell? ⟨g, 1, none⟩ = some v) : (Instr.loadAt 50 (.pointer (some ⟨g, 1, none⟩))).run Tryz.prog w = .ok v w := by go_simp
section
variable {a : Act} {w : World} {Q : Exit -> Act -> World -> Prop} {g r kb bx : Nat} {vl : Value} {o : OpV} {R : Value -> World -> Prop}
theorem tail15 (n : Nat) (hn : 110 <= n) (ds : List Deferred) (v : Value) (a1 : Act) (w1 : World) (hsz : a1.tmps.size = n) (hds : a1.defers = ds) (e94 : a1.eval (.tmp 94) = .pointer (some ⟨g, 0, none⟩)) (e95 : a1.eval (.tmp 95) = vl) (e100 : a1.eval (.tmp 100) = v) (e101 : a1.eval (.tmp 101) = .agg (opA o)) (e102 : a1.eval (.tmp 102) = .pointer (some ⟨kb, 0, none⟩))
    (hcall : Calls Tryz.prog 33 #[.pointer (some ⟨g, 0, none⟩), vl, v, .agg (opA o), .pointer (some ⟨kb, 0, none⟩)] w1 fun e w2 => ∃ u, e = .returned u /\ R u w2)
    (hp : ∀ c a (d : Nat) v w, Q (.panic c) (Act.put a (some d) v) w -> Q (.panic c) a w)
    (hQ : ∀ (a' : Act) u w2, a'.eval (.tmp 6) = u -> a'.tmps.size = n -> a'.defers = ds -> R u w2 -> Q .normal a' w2) :
    wpAny Tryz.prog .any ops15 Q 2 #[true, true, true, true, true, true, true, true, true, false, false] a1 w1 := by
  have z9 : 103 < a1.tmps.size := by omega
  have za : 6 < a1.tmps.size := by omega
  refine wpAny_ready (rs := [9]) (by kernel_rfl) (by simp) (AllReady.cons (o := ({ dst := some 103, op := .call { callee := .value (.func 33), args := #[.tmp 94, .tmp 95, .tmp 100, .tmp 101, .tmp 102], argTypes := #[34, 31, 46, 42, 23] }, type := 4, pos := "device.go:279", after := #[{ on := 0, ground := .data }, { on := 1, ground := .data }, { on := 6, ground := .data }, { on := 7, ground := .data }, { on := 8, ground := .data }, { on := 6, ground := .chain }], guard := none } : Oper)) rfl (fun K hK => ?_) AllReady.nil)
  refine step_call rfl 33 #[.tmp 94, .tmp 95, .tmp 100, .tmp 101, .tmp 102] #[34, 31, 46, 42, 23] rfl #[.pointer (some ⟨g, 0, none⟩), vl, v, .agg (opA o), .pointer (some ⟨kb, 0, none⟩)] (by simp [e94, e95, e100, e101, e102]) (enter33 _ _ _ _ _ _) R hcall ?_
  intro u w2 hr
  refine hK _ _ ?_
  refine wpAny_take (i := 10) (oi := ({ dst := some 6, op := .assign (.tmp 103), type := 4, pos := "device.go:279", after := #[{ on := 9, ground := .data }, { on := 9, ground := .chain }, { on := 0, ground := .phase }, { on := 1, ground := .phase }, { on := 2, ground := .phase }, { on := 3, ground := .phase }, { on := 4, ground := .phase }, { on := 5, ground := .phase }, { on := 6, ground := .phase }, { on := 7, ground := .phase }, { on := 8, ground := .phase }, { on := 9, ground := .phase }], guard := none } : Oper)) (v := u) rfl (by kernel_rfl) (by kernel_rfl) (by kernel_rfl) (fun c a w h => hp c a _ _ w h) (Or.inl ⟨rfl, fun w => ?_⟩) ?_
  . simp [execOp, ev_put, z9]
  . refine wpAny_done (by kernel_rfl) ?_ _
    exact hQ _ u w2 (by simp [ev_put, sz_put, za]) (by simp [sz_put, hsz]) hds hr
set_option maxHeartbeats 4000000 in
theorem reg15_wp (hsz : 110 <= a.tmps.size) (h0 : a.eval (.tmp 0) = .pointer (some ⟨g, 0, none⟩)) (h12 : a.eval (.tmp 12) = vl) (h4 : a.eval (.tmp 4) = .pointer (some ⟨bx, 0, none⟩)) (h2 : a.eval (.tmp 2) = .pointer (some ⟨kb, 0, none⟩))
    (hc : w.cell? ⟨g, 1, none⟩ = some (.pointer (some ⟨r, 0, none⟩))) (hb : w.heap[bx]? = some (.cells (opA o) 42 (0, 0)))
    (hcall : Calls Tryz.prog 35 #[.pointer (some ⟨r, 0, none⟩)] w.drew fun e w1 => ∃ v, e = .returned v /\ (w1.heap[bx]? = some (.cells (opA o) 42 (0, 0)) /\ Calls Tryz.prog 33 #[.pointer (some ⟨g, 0, none⟩), vl, v, .agg (opA o), .pointer (some ⟨kb, 0, none⟩)] w1 fun e w2 => ∃ u, e = .returned u /\ R u w2))
    (hp : ∀ c a (d : Nat) v w, Q (.panic c) (Act.put a (some d) v) w -> Q (.panic c) a w)
    (hQ : ∀ (a' : Act) u w2, a'.eval (.tmp 6) = u -> a'.tmps.size = a.tmps.size -> a'.defers = a.defers -> R u w2 -> Q .normal a' w2) :
    (Code.region 15 ops15 true).wp Tryz.prog Q a w := by
  refine wp_region_any (by kernel_rfl) ?_
  change wpAny _ _ _ _ _ _ _ (World.drew _)
  have z0 : 94 < a.tmps.size := by omega
  have z1 : 95 < a.tmps.size := by omega
  have z2 : 96 < a.tmps.size := by omega
  have z3 : 97 < a.tmps.size := by omega
  have z4 : 98 < a.tmps.size := by omega
  have z5 : 99 < a.tmps.size := by omega
  have z6 : 100 < a.tmps.size := by omega
  have z7 : 101 < a.tmps.size := by omega
  have z8 : 102 < a.tmps.size := by omega
  refine wpAny_take (i := 0) (oi := ({ dst := some 94, op := .move (.tmp 0), type := 34, pos := "device.go:279", after := #[], guard := none } : Oper)) (v := .pointer (some ⟨g, 0, none⟩)) rfl (by kernel_rfl) (by kernel_rfl) (by kernel_rfl) (fun c a w h => hp c a _ _ w h) (Or.inl ⟨rfl, fun w => ?_⟩) ?_
  . simp [execOp, h0]
  refine wpAny_take (i := 1) (oi := ({ dst := some 95, op := .move (.tmp 12), type := 31, pos := "device.go:279", after := #[], guard := none } : Oper)) (v := vl) rfl (by kernel_rfl) (by kernel_rfl) (by kernel_rfl) (fun c a w h => hp c a _ _ w h) (Or.inl ⟨rfl, fun w => ?_⟩) ?_
  . simp [execOp, ev_put, h12, z0]
  refine wpAny_take (i := 2) (oi := ({ dst := some 96, op := .move (.tmp 0), type := 34, pos := "device.go:279", after := #[], guard := none } : Oper)) (v := .pointer (some ⟨g, 0, none⟩)) rfl (by kernel_rfl) (by kernel_rfl) (by kernel_rfl) (fun c a w h => hp c a _ _ w h) (Or.inl ⟨rfl, fun w => ?_⟩) ?_
  . simp [execOp, ev_put, sz_put, h0, z0, z1]
  refine wpAny_take (i := 3) (oi := ({ dst := some 97, op := .nilCheck (.tmp 96), type := 0, pos := "device.go:279", after := #[{ on := 2, ground := .data }], guard := none } : Oper)) (v := .pointer (some ⟨g, 0, none⟩)) rfl (by kernel_rfl) (by kernel_rfl) (by kernel_rfl) (fun c a w h => hp c a _ _ w h) (Or.inl ⟨rfl, fun w => ?_⟩) ?_
  . simp [execOp, ev_put, sz_put, z2]
  refine wpAny_take (i := 4) (oi := ({ dst := some 98, op := .fieldAddr 52 (.tmp 97) 1, type := 0, pos := "device.go:279", after := #[{ on := 3, ground := .data }], guard := none } : Oper)) (v := .pointer (some ⟨g, 1, none⟩)) rfl (by kernel_rfl) (by kernel_rfl) (by kernel_rfl) (fun c a w h => hp c a _ _ w h) (Or.inl ⟨rfl, fun w => ?_⟩) ?_
  . simp [execOp, ev_put, sz_put, z3, fieldAt52]
  refine wpAny_take (i := 8) (oi := ({ dst := some 102, op := .move (.tmp 2), type := 23, pos := "device.go:279", after := #[], guard := none } : Oper)) (v := .pointer (some ⟨kb, 0, none⟩)) rfl (by kernel_rfl) (by kernel_rfl) (by kernel_rfl) (fun c a w h => hp c a _ _ w h) (Or.inl ⟨rfl, fun w => ?_⟩) ?_
  . simp [execOp, ev_put, sz_put, h2, z0, z1, z2, z3, z4]
  obtain ⟨a1, ha1⟩ : ∃ a1, a1 = (((((a.put (some 94) (.pointer (some ⟨g, 0, none⟩))).put (some 95) vl).put (some 96) (.pointer (some ⟨g, 0, none⟩))).put (some 97) (.pointer (some ⟨g, 0, none⟩))).put (some 98) (.pointer (some ⟨g, 1, none⟩))).put (some 102) (.pointer (some ⟨kb, 0, none⟩)) := ⟨_, rfl⟩
  have hz : a1.tmps.size = a.tmps.size := by simp [ha1, sz_put]
  have hd : a1.defers = a.defers := by rw [ha1]; rfl
  have e4 : a1.eval (.tmp 4) = .pointer (some ⟨bx, 0, none⟩) := by simp [ha1, ev_put, sz_put, h4, z0, z1, z2, z3, z4, z8]
  have e94 : a1.eval (.tmp 94) = .pointer (some ⟨g, 0, none⟩) := by simp [ha1, ev_put, sz_put, z0, z1, z2, z3, z4, z8]
  have e95 : a1.eval (.tmp 95) = vl := by simp [ha1, ev_put, sz_put, z1, z2, z3, z4, z8]
  have e98 : a1.eval (.tmp 98) = .pointer (some ⟨g, 1, none⟩) := by simp [ha1, ev_put, sz_put, z4, z8]
  have e102 : a1.eval (.tmp 102) = .pointer (some ⟨kb, 0, none⟩) := by simp [ha1, ev_put, sz_put, z8]
  have y5 : 99 < a1.tmps.size := by omega
  have y6 : 100 < a1.tmps.size := by omega
  have y7 : 101 < a1.tmps.size := by omega
  change wpAny _ _ _ _ _ _ ((((((a.put (some 94) (.pointer (some ⟨g, 0, none⟩))).put (some 95) vl).put (some 96) (.pointer (some ⟨g, 0, none⟩))).put (some 97) (.pointer (some ⟨g, 0, none⟩))).put (some 98) (.pointer (some ⟨g, 1, none⟩))).put (some 102) (.pointer (some ⟨kb, 0, none⟩))) _
  rw [<- ha1]
  clear ha1 h0 h12 h4 h2
  have hl50 : ∀ (ax : Act) (K : Act -> World -> Prop) (E : Prop), ax.eval (.tmp 98) = .pointer (some ⟨g, 1, none⟩) -> K (ax.put (some 99) (.pointer (some ⟨r, 0, none⟩))) w.drew -> if Region.wanted ({ dst := some 99, op := .load 50 (.tmp 98), type := 50, pos := "device.go:279", after := #[{ on := 4, ground := .data }], guard := none } : Oper) (yielded ops15 ax.tmps) = true then Oper.wp Tryz.prog ({ dst := some 99, op := .load 50 (.tmp 98), type := 50, pos := "device.go:279", after := #[{ on := 4, ground := .data }], guard := none } : Oper) ax w.drew K Q else E := fun ax K E he hk => by
    refine (if_pos (show Region.wanted ({ dst := some 99, op := .load 50 (.tmp 98), type := 50, pos := "device.go:279", after := #[{ on := 4, ground := .data }], guard := none } : Oper) (yielded ops15 ax.tmps) = true from rfl)).mpr ?_
    unfold Oper.wp
    have : (execOp ax.eval ({ dst := some 99, op := .load 50 (.tmp 98), type := 50, pos := "device.go:279", after := #[{ on := 4, ground := .data }], guard := none } : Oper)).run Tryz.prog w.drew = .ok (.value (.pointer (some ⟨r, 0, none⟩))) w.drew := by
      simp [execOp, he, load50 g _ w.drew hc]
    rw [this]
    exact hk
  refine wpAny_ready (rs := [5, 7]) (by kernel_rfl) (by simp) (AllReady.cons (o := ({ dst := some 99, op := .load 50 (.tmp 98), type := 50, pos := "device.go:279", after := #[{ on := 4, ground := .data }], guard := none } : Oper)) rfl (fun K hK => ?_) (AllReady.cons (o := ({ dst := some 101, op := .load 42 (.tmp 4), type := 42, pos := "device.go:279", after := #[], guard := none } : Oper)) rfl (fun K hK => ?_) AllReady.nil))
  . refine hl50 _ _ _ e98 (hK _ _ ?_)
    refine wpAny_ready (rs := [6, 7]) (by kernel_rfl) (by simp) (AllReady.cons (o := ({ dst := some 100, op := .call { callee := .value (.func 35), args := #[.tmp 99], argTypes := #[50] }, type := 46, pos := "device.go:279", after := #[{ on := 5, ground := .data }], guard := none } : Oper)) rfl (fun K hK => ?_) (AllReady.cons (o := ({ dst := some 101, op := .load 42 (.tmp 4), type := 42, pos := "device.go:279", after := #[], guard := none } : Oper)) rfl (fun K hK => ?_) AllReady.nil))
    . refine step_call rfl 35 #[.tmp 99] #[50] rfl #[.pointer (some ⟨r, 0, none⟩)] (by simp [ev_put, y5]) (enter35 _ _) _ hcall ?_
      rintro v w1 ⟨hb1, hc1⟩
      refine hK _ _ ?_
      refine wpAny_ready (rs := [7]) (by kernel_rfl) (by simp) (AllReady.cons (o := ({ dst := some 101, op := .load 42 (.tmp 4), type := 42, pos := "device.go:279", after := #[], guard := none } : Oper)) rfl (fun K hK => ?_) AllReady.nil)
      refine step_load42 rfl 4 rfl bx (by simp [ev_put, sz_put, e4, y5, y6]) o hb1 (hK _ _ ?_)
      exact tail15 a.tmps.size hsz a.defers v _ w1 (by simp [sz_put, hz]) hd (by simp [ev_put, sz_put, e94, y5, y6, y7]) (by simp [ev_put, sz_put, e95, y5, y6, y7]) (by simp [ev_put, sz_put, y6, y7]) (by simp [ev_put, sz_put, y7]) (by simp [ev_put, sz_put, e102, y5, y6, y7]) hc1 hp hQ
    . refine step_load42 rfl 4 rfl bx (by simp [ev_put, e4, y5]) o hb (hK _ _ ?_)
      refine wpAny_ready (rs := [6]) (by kernel_rfl) (by simp) (AllReady.cons (o := ({ dst := some 100, op := .call { callee := .value (.func 35), args := #[.tmp 99], argTypes := #[50] }, type := 46, pos := "device.go:279", after := #[{ on := 5, ground := .data }], guard := none } : Oper)) rfl (fun K hK => ?_) AllReady.nil)
      refine step_call rfl 35 #[.tmp 99] #[50] rfl #[.pointer (some ⟨r, 0, none⟩)] (by simp [ev_put, sz_put, y5, y7]) (enter35 _ _) _ hcall ?_
      rintro v w1 ⟨hb1, hc1⟩
      refine hK _ _ ?_
      exact tail15 a.tmps.size hsz a.defers v _ w1 (by simp [sz_put, hz]) hd (by simp [ev_put, sz_put, e94, y5, y6, y7]) (by simp [ev_put, sz_put, e95, y5, y6, y7]) (by simp [ev_put, sz_put, y6]) (by simp [ev_put, sz_put, y6, y7]) (by simp [ev_put, sz_put, e102, y5, y6, y7]) hc1 hp hQ
  . refine step_load42 rfl 4 rfl bx e4 o hb (hK _ _ ?_)
    refine wpAny_ready (rs := [5]) (by kernel_rfl) (by simp) (AllReady.cons (o := ({ dst := some 99, op := .load 50 (.tmp 98), type := 50, pos := "device.go:279", after := #[{ on := 4, ground := .data }], guard := none } : Oper)) rfl (fun K hK => ?_) AllReady.nil)
    refine hl50 _ _ _ (by simp [ev_put, e98, y7]) (hK _ _ ?_)
    refine wpAny_ready (rs := [6]) (by kernel_rfl) (by simp) (AllReady.cons (o := ({ dst := some 100, op := .call { callee := .value (.func 35), args := #[.tmp 99], argTypes := #[50] }, type := 46, pos := "device.go:279", after := #[{ on := 5, ground := .data }], guard := none } : Oper)) rfl (fun K hK => ?_) AllReady.nil)
    refine step_call rfl 35 #[.tmp 99] #[50] rfl #[.pointer (some ⟨r, 0, none⟩)] (by simp [ev_put, sz_put, y5]) (enter35 _ _) _ hcall ?_
    rintro v w1 ⟨hb1, hc1⟩
    refine hK _ _ ?_
    exact tail15 a.tmps.size hsz a.defers v _ w1 (by simp [sz_put, hz]) hd (by simp [ev_put, sz_put, e94, y5, y6, y7]) (by simp [ev_put, sz_put, e95, y5, y6, y7]) (by simp [ev_put, sz_put, y6]) (by simp [ev_put, sz_put, y5, y6, y7]) (by simp [ev_put, sz_put, e102, y5, y6, y7]) hc1 hp hQ
end
end Go.Proofs.YtcpldcojckhapaaGreat

set_option maxRecDepth 100000
namespace Go.Proofs.YtcpldcojckhapaaGreat
open Go.RowKit
set_option maxHeartbeats 8000000 in
theorem do_flush (w : World) (B : Nat) (c : Nat -> Nat) (q : Plc) (kb m : Nat) (b : Bks) (F : Cf) (D : Dev) (s : Ls) (left : List (List Int)) (safe : Nat) (ys : Nat -> ByteArray) (zs : Nat -> Bool) (nd : Nat) (d : ByteArray) (o : OpV) (h : Full w B c q kb m b F D s left safe ys zs nd d) (hF : CfOk F) (hm : m <= 600000) (hnd : 2 * F.sec <= nd /\ nd <= 64) (ho : OpR o) (hk : o.kind = 4) :
    Calls Tryz.prog 9 #[.pointer (some ⟨q.g, 0, none⟩), .agg (opA o), .pointer (some ⟨kb, 0, none⟩)] w fun e w' => e = .returned (.bool true) /\ Stands w w' B q kb (m + 11) F nd := by
  obtain ⟨hs1, hs3, _⟩ := Cf.sec_le hF
  have hnd0 : 0 < nd := by have := hnd.1; omega
  have hB := h.sb.bk.bk.lo.2
  obtain ⟨X, hX⟩ : ∃ X, X = w.alloc (.cells (opA o) 42) := ⟨_, rfl⟩
  have hXb : Below w.heap.size w X := by rw [hX]; exact bel_alloc (Below.refl _ _) _
  have hXg : X.heap[w.heap.size]? = some (.cells (opA o) 42 (0, 0)) := by rw [hX]; exact heap_alloc_new w _
  have hFX := h.below hXb
  obtain ⟨cX, hcX⟩ : ∃ cX, cX = nc X B (colN w c 9) := ⟨_, rfl⟩
  rw [<- hcX] at hFX
  have hc9 : cX w.heap.size = 9 := by rw [hcX]; exact nc_at (w := X) hB hXg (by decide) (colN_new w c 9 _ (Nat.le_refl _)) (by decide)
  have z0 : X.cell? ⟨w.heap.size, 0, none⟩ = some (.int .i64 4) := by rw [cell_of_row _ _ _ _ _ _ hXg]; show some (Value.int .i64 o.kind) = _; rw [hk]
  obtain ⟨_, _, _, _, _, _, k0, _⟩ := hFX.sb.cells hnd0
  have hXl := lt_of_block hXg
  obtain ⟨T, hT⟩ : ∃ T, T = flushP D := ⟨_, rfl⟩
  have HFP := hideF (flush_pure hFX.sim hFX.ok hFX.sb.cf hFX.ll hFX.ar)
  have HFE := hideF (flush_p q.d q.L q.S q.E q.wv D X hFX.dv.inn hFX.ok.fl)
  have HSM := hideF (flushP_same D)
  have HFL := hideF (flushP_fields D)
  have HW0 := hideF hFX.ok.w0
  have HLL : Hid (left.length = D.arr + 1) := hFX.sim.ll
  have HAR := hideF hFX.ar
  rw [<- hT] at HFP HFE HSM HFL
  obtain ⟨T1, hT1⟩ : ∃ T1, T1 = T.1 := ⟨_, rfl⟩
  obtain ⟨A, hA2⟩ : ∃ A, A = T.2 := ⟨_, rfl⟩
  rw [<- hT1, <- hA2] at HFP HFE
  rw [<- hT1] at HSM HFL
  have hstep : ∀ (w1 : World) (v wv' : Value), w1.ownsRow X.heap.size 77 4 v A.length (A.flatMap encA) -> DevIn w1 q.d q.L q.S q.E wv' T1 -> FtT D.base (devT q.d q.L q.S q.E) X w1 -> ∃ c1, FedA w w1 B c1 q kb m b F D T1 s left safe ys zs nd o A v wv' := fun w1 v wv' hv hdi hft => by
    obtain ⟨hf, hD1⟩ := dev_called hFX.dv hFX.sb.nr hdi hft HSM.out.1.base 1
    have hag := colN_agr X cX 1
    have hbx1 := (hf.keep _ _ _ hXg (.inl (by decide)) (by rw [hc9]; decide)).trans hXg
    have hBX : B <= X.heap.size := hFX.sb.bk.bk.lo.2
    refine ⟨_, StB.norm (hFX.sb.bk.frame hf hag (by decide)) (hFX.sb.rf.frame hf hag (by decide) (by decide) (by decide)) (hFX.sb.rg.frame hf hag (by decide)) hFX.sb.lb hFX.sb.cf, hD1, own_base hv hBX, fun g hg => ⟨nc_row (B := B) hv hBX (by decide) (show (1 : Nat) ≠ 0 by decide) (fun g hg => colN_new _ _ 1 g (hv.lt g hg).1) g hg, fun hb => by have h1 := hFX.sb.bk.bk.here g hb; have h2 := (hv.lt g hg).1; omega⟩, hbx1, nc_at hB hbx1 (by decide) ((hag _ hXl).trans hc9) (by decide), (hXb.mono hB).trans (hf.toBelow hFX.sb.nr (by decide) hBX)⟩
  have HST := hideF hstep
  clear hstep hFX hc9 hcX hXb h hk hXg hT hT1 hA2
  go_enter Tryz.func9, Tryz.ntmps9
  go_upto_region 1 with fail
  rw [<- hX]
  clear hX
  go_upto_region 14 with fail
  go_wp2_with fail
  refine HFE.out.mono ?_
  rintro e w1 ⟨v, wv1, rfl, hov, _, hdi, hft⟩
  obtain ⟨c1, hA⟩ := HST.out w1 v wv1 hov hdi hft
  obtain ⟨a1, k1, rfl, _⟩ := own_view hA.row
  have hrf := hA.sb.rf.frame (k := 9) (w' := w1.drew) (Fc.of_below (Below.refl _ _).drew) (Agr.refl _ _) (by decide) (by decide) (by decide)
  have hrc := hA.sb.rf.cw
  have HC35 : Hid (Calls Tryz.prog 35 #[.pointer (some ⟨q.p.r, 0, none⟩)] w1.drew fun e w2 => ∃ v, e = .returned v /\ (w2.heap[w.heap.size]? = some (.cells (opA o) 42 (0, 0)) /\ Calls Tryz.prog 33 #[.pointer (some ⟨q.g, 0, none⟩), .slice a1 A.length k1, v, .agg (opA o), .pointer (some ⟨kb, 0, none⟩)] w2 fun e w3 => ∃ u, e = .returned u /\ (u = .bool true /\ Stands w w3 B q kb (m + 11) F nd))) := by
    refine (rflush_any w1.drew B c1 q.p D left safe ys zs hrf (by have := HLL.out; omega) (by have := HLL.out; have := HAR.out; omega)).mono ?_
    rintro e w2 ⟨rfl, hrv, hrI, hf2, _⟩
    have hf : Fc c1 3 w1 w2 := (Fc.of_below (k := 3) (Below.refl _ _).drew).trans hf2 (Agr.refl _ _)
    have hag : Agr w1 c1 c1 := Agr.refl _ _
    have hsm := HSM.out.1
    obtain ⟨fl1, fl2, fl3⟩ := HFL.out
    have hwt : T1.wait = [] := by
      rw [fl1]
      split
      . rename_i h0; exact HW0.out h0
      . rfl
    have hrI' : RefIn w2 B c1 { q.p with wv := .slice none 0 0 } T1 left (left.length - 1) ys zs := hrI.as hsm.sz hsm.kp hsm.unit hsm.nl hsm.batch fl3 fl2 hwt (fun i => by rw [hsm.ln])
    have hD2 := hA.dv.frame hA.sb.nr hf hag (by decide)
    have hbx := (hf.keep _ _ _ hA.bx (.inl (by decide)) (by rw [hA.cb]; decide)).trans hA.bx
    have hrow := hf.own hA.row (by decide) (fun g hg => by rw [(hA.vc g hg).1]; decide)
    have hSB2 : StB w2 B (nc w2 B c1) { q with wv := wv1, p := { q.p with wv := .slice none 0 0 } } kb m b F T1 s left (left.length - 1) ys zs nd := StB.norm (hA.sb.bk.frame hf hag (by decide)) hrI' ((hA.sb.rg.frame hf hag (by decide)).reP hA.sb.cf HFP.out.cf rfl rfl rfl rfl rfl rfl rfl) hA.sb.lb HFP.out.cf
    have hDv2 : DevC w2 B (nc w2 B c1) { q with wv := wv1, p := { q.p with wv := .slice none 0 0 } } T1 := DevC.nc ⟨hD2.inn, hD2.cd, hD2.cL, hD2.cS, hD2.cE, hD2.lo⟩
    obtain ⟨d', hsim⟩ := HFP.out.sim
    have P := HFP.out
    refine ⟨_, rfl, hbx, ?_⟩
    refine (through_any w2 B (nc w2 B c1) { q with wv := wv1, p := { q.p with wv := .slice none 0 0 } } kb m b F T1 s left (left.length - 1) ys zs nd o (.slice a1 A.length k1) q.p.wv B B A D.wait d' hSB2 hDv2 hF (by omega) hnd ho hrow (Nat.le_refl _) (fun g hg => ⟨nc_row (B := B) hrow (Nat.le_refl _) (by decide) (show (1 : Nat) ≠ 0 by decide) (fun g hg => (hA.vc g hg).1) g hg, (hA.vc g hg).2⟩) hrv (fun g hg => by rw [nc_row (B := B) hrv (Nat.le_refl _) (by decide) (show (3 : Nat) ≠ 0 by decide) hrc g hg]; decide) P.chk P.al P.wl P.wet P.ls P.num P.lose P.least hsim P.ok P.ar P.ll).mono ?_
    rintro e w4 ⟨rfl, hst⟩
    obtain ⟨q4, c4, b4, D4, s4, l4, sf4, y4, z4, d4, g1, g2, g3, g4, g5, g6, g7, g8⟩ := hst
    exact ⟨_, rfl, rfl, q4, c4, b4, D4, s4, l4, sf4, y4, z4, d4, g1, g2, g3, g4, g5, g6, g7, (hA.bl.trans (hf.toBelow hA.sb.nr (by decide) hA.sb.bk.bk.lo.2)).trans g8⟩
  obtain ⟨_, _, _, _, _, _, _, k1', _⟩ := hA.sb.cells hnd0
  have HBX := hideF hA.bx
  clear hov hdi hft hA hrf hrc z0 k0 HST HFE HFP HSM HFL HW0
  go_upto_region 15 with fail
  refine reg15_wp (bx := w.heap.size) (g := q.g) (r := q.p.r) (kb := kb) (vl := .slice a1 A.length k1) (o := o) (R := fun u w3 => u = .bool true /\ Stands w w3 B q kb (m + 11) F nd) (by simp) (by simp [Act.eval]) (by simp [Act.eval]) (by simp [Act.eval]) (by simp [Act.eval]) k1' HBX.out HC35.out (fun _ _ _ _ _ h => h) ?_
  intro a' u w2 e6 _ hd hr
  obtain ⟨rfl, hst⟩ := hr
  have HG := hideF hst
  clear hst HC35 HBX k1'
  go_wp2
  refine bodyPost_ret (v := .bool true) ?_ hd ⟨rfl, HG.out⟩
  rw [results_tmp rfl]
  exact congrArg (fun x => Result.ok x w2) e6
end Go.Proofs.YtcpldcojckhapaaGreat
