/-
  
-/
import Derived.Test.YtcpldcojckhapaaGreatJ10
import Derived.Test.YtcpldcojckhapaaGreatPlain
import Derived.WalkKit
import Derived.WalkSpells
import Derived.WalkLawsBesides
import Derived.Below
import Derived.Lib.BufferWrite
import Derived.Lib.UnsafeStr
import Derived.Laws.MakeOwn
set_option maxRecDepth 100000
namespace Go.Proofs.YtcpldcojckhapaaGreat
open Go.RowKit
theorem and1 (m : Nat) (hm : m < 65536) : bits .and .u16 (m : Int) 1 = ((m % 2 : Nat) : Int) := by
  have := u16_and_nat m 1 hm (by omega)
  rw [nat_mask1] at this
  exact this
theorem xorc (m : Nat) (hm : m < 65536) : bits .xor .u16 ((m : Int) / 2) 40961 = ((m / 2 ^^^ 40961 : Nat) : Int) := by
  have := u16_xor_nat (m / 2) 40961 (by omega) (by omega)
  exact this
set_option maxRecDepth 100000 in
set_option maxHeartbeats 400000 in
theorem checkByte_any (c b : Nat) (w : World) (hc : c < 65536) (hb : b < 256) :
    Calls Tryz.prog 147 #[.int .u16 c, .int .u8 b] w fun e w' => e = .returned (.int .u16 (Pl.byteStep c b : Nat)) /\ w' = w := by
  go_enter Tryz.func147, Tryz.ntmps147
  go_wp2
  go_loop [0, 10] (fun v i => ∃ k m : Nat, k <= 8 /\ m < 65536 /\ i = .int .i64 k /\ v = .int .u16 m /\ Hid (m = Pl.bsteps k (c ^^^ b))) (fun _ i => 8 - (intOf i).toNat)
  case atStart =>
    exact ⟨0, c ^^^ b, by omega, Nat.xor_lt_two_pow (n := 16) (by omega) (by omega), rfl, vint (u16_xor_nat c b hc (by omega)), rfl⟩
  case round =>
    obtain ⟨k, m, hk, hm, rfl, rfl, he⟩ := hrel
    by_cases hlt : k < 8
    . have hs : Hid (Pl.bsteps (k + 1) (c ^^^ b) = if m % 2 = 1 then (m / 2) ^^^ 40961 else m / 2) := by
        show Pl.bstep (Pl.bsteps k (c ^^^ b)) = _
        rw [<- he.out]; rfl
      have ha := and1 m hm
      have hx := xorc m hm
      have hl : Hid (m / 2 ^^^ 40961 < 65536) := Nat.xor_lt_two_pow (n := 16) (by omega) (by omega)
      by_cases ho : m % 2 = 1
      . have h1 : (bits BinOp.and IntKind.u16 (m : Int) 1 == 1) = true := by rw [ha, ho]; rfl
        have HX : Hid (bits .xor .u16 ((m : Int) / 2) 40961 = ((m / 2 ^^^ 40961 : Nat) : Int)) := hx
        have HO : Hid (m % 2 = 1) := ho
        clear ha hx ho
        go_wp2
        go_round
        case rel => exact ⟨k + 1, m / 2 ^^^ 40961, by omega, hl.out, by go_num, vint HX.out, by show _ = _; rw [hs.out, if_pos HO.out]⟩
        case measure => simp [intOf]; omega
      . have h1 : (bits BinOp.and IntKind.u16 (m : Int) 1 == 1) = false := by rw [ha]; simp; omega
        have HO : Hid (¬ m % 2 = 1) := ho
        clear ha hx ho
        go_wp2
        go_round
        case rel => exact ⟨k + 1, m / 2, by omega, by omega, by go_num, vint (by omega), by show _ = _; rw [hs.out, if_neg HO.out]⟩
        case measure => simp [intOf]; omega
    . go_wp2
      go_ret
      have hk8 : k = 8 := by omega
      subst hk8
      exact ⟨rint (by rw [he.out]; rfl), rfl⟩
set_option maxRecDepth 100000 in
set_option maxHeartbeats 400000 in
theorem check_any (s : ByteArray) (w : World) (hs : s.size <= maxLen) :
    Calls Tryz.prog 118 #[.string s] w fun e w' => e = .returned (.int .u16 (Pl.crc s.data.toList : Nat)) /\ w' = w := by
  unfold maxLen at hs
  go_enter Tryz.func118, Tryz.ntmps118
  go_wp2
  go_loop [3, 7] (fun v i => ∃ k m : Nat, k <= s.size /\ m < 65536 /\ i = .int .i64 k /\ v = .int .u16 m /\ Hid (m = Pl.crc (s.data.toList.take k))) (fun _ i => s.size - (intOf i).toNat)
  case atStart => exact ⟨0, 65535, Nat.zero_le _, by omega, rfl, rfl, rfl⟩
  case round =>
    obtain ⟨k, m, hk, hm, rfl, rfl, he⟩ := hrel
    by_cases hlt : k < s.size
    . have hs1 : Hid (Pl.crc (s.data.toList.take (k + 1)) = Pl.byteStep m s[k].toNat) := by show _ = _; rw [Pl.crc_take s k hlt, he.out]
      have hb : s[k].toNat < 256 := s[k].toNat_lt
      have hl : Hid (Pl.byteStep m s[k].toNat < 65536) := Pl.byteStep_lt m _ hm hb
      go_wp2_with (go_at_call 147; refine (checkByte_any _ _ _ (by omega) (by omega)).mono ?_; rintro e w' ⟨rfl, rfl⟩)
      go_round
      case rel => exact ⟨k + 1, Pl.byteStep m s[k].toNat, by omega, hl.out, by go_num, rfl, hs1.out.symm⟩
      case measure => simp [intOf]; omega
    . go_wp2
      go_ret
      exact ⟨rint (by rw [he.out, List.take_of_length_le (by simp; omega)]), rfl⟩
end Go.Proofs.YtcpldcojckhapaaGreat

set_option maxRecDepth 100000
namespace Go.Proofs.YtcpldcojckhapaaGreat
open Go.Conc Go.RowKit
variable {C : Ch} {main : Bool} {mine : List Nat}
theorem ev_len {P : Program} {w : World} {es : Array Event} {t ty : TypeId} (s : ByteArray) (h : P.underlying t = some .string) : (Builtin.len_ #[t] ty #[.string s]).events P w es = es := by
  simp [Builtin.len_, run_underlying h w]
theorem ev_index {P : Program} {w : World} {es : Array Event} {t : TypeId} {k : Nat} {s : ByteArray} (h : P.underlying t = some .string) (hk : k < s.size) : (Instr.index t (.string s) (.int .i64 k)).events P w es = es := by
  have hg : s[k]? = some s[k] := by simp [hk]
  simp [Instr.index, asIntOf, run_underlying h w, hg]
theorem opsC_callE {P : Program} {R : World -> World -> Prop} {D : World -> World -> Array Event -> Prop} (T : Terms R D) {fn : FuncId} {Q : Exit -> Act -> World -> Prop} {a : Act} {w : World} {ops : Array Oper} {i : Nat} {rest : List Nat} {o : Oper} {f : FuncId} {args : Array Operand} {ats : Array TypeId} {nf n : Nat} {vals : Array Value} {Post : Value -> World -> Prop}
    (ho : ops[i]? = some o) (hw : Region.wanted o (yielded ops a.tmps) = true) (hop : o.op = .call { callee := .value (.func f), args, argTypes := ats }) (hcall : CallsC P main R D f vals nf w Post) (hargs : args.map a.eval = vals)
    (hnext : ∀ v w', Post v w' -> OpsC P main R D fn ops rest n Q (a.put o.dst v) w') : OpsC P main R D fn ops (i :: rest) (n + nf + 3) Q a w := opsC_call T ho hw hop (hargs ▸ hcall) hnext
theorem tr_rely {w₀ w w₁ : World} (h : Rel C mine w₀ w) (r : Rel C mine w w₁) : Rel C mine w₀ w₁ := h.trans r
def I147 (c b : Nat) (a : Act) (k : Nat) : Prop := ∃ m : Nat, ∃ s2 s3 s4 s5 s6 s7 s8 s9 s11 s12 s13 s14 s15 s16 s17 s18 s19 s20 s21 : Value, m < 65536 /\ k <= 8 /\ m = Pl.bsteps k (c ^^^ b) /\
  a = ⟨#[.int .u16 m, .int .u8 b, s2, s3, s4, s5, s6, s7, s8, s9, .int .i64 k, s11, s12, s13, s14, s15, s16, s17, s18, s19, s20, s21], []⟩
theorem I147.mk {c b m k : Nat} {v0 s2 s3 s4 s5 s6 s7 s8 s9 v10 s11 s12 s13 s14 s15 s16 s17 s18 s19 s20 s21 : Value} (hm : m < 65536) (hk : k <= 8) (he : m = Pl.bsteps k (c ^^^ b)) (h0 : v0 = .int .u16 m) (h1 : v10 = .int .i64 k) : I147 c b ⟨#[v0, .int .u8 b, s2, s3, s4, s5, s6, s7, s8, s9, v10, s11, s12, s13, s14, s15, s16, s17, s18, s19, s20, s21], []⟩ k := by
  subst h0 h1
  exact ⟨m, _, _, _, _, _, _, _, _, _, _, _, _, _, _, _, _, _, _, _, hm, hk, he, rfl⟩
theorem wrap_next {k : Nat} (h : k < 2 ^ 62) : IntKind.i64.wrap ((k : Int) + 1) = (k : Int) + 1 := by
  have e1 : (2 : Int) ^ IntKind.i64.bits = 18446744073709551616 := rfl
  have e2 : (2 : Int) ^ (IntKind.i64.bits - 1) = 9223372036854775808 := rfl
  simp only [IntKind.wrap, e1, e2, IntKind.signed, Bool.true_and]
  split <;> simp_all <;> omega
theorem wrap_byte {b : Nat} (hb : b < 256) : IntKind.u16.wrap (b : Int) = b := by
  have : (2 : Int) ^ IntKind.u16.bits = 65536 := rfl
  simp only [IntKind.wrap, this, IntKind.signed, Bool.false_and, Bool.false_eq_true, if_false]
  omega
theorem checkByte_c (C : Ch) (main : Bool) : ∃ n, ∀ (mine : List Nat) (c b : Nat), c < 65536 -> b < 256 -> ∀ w : World, CallsC Tryz.prog main (Rel C mine) (DG C mine) 147 #[.int .u16 c, .int .u8 b] n w fun v w' => v = .int .u16 (Pl.byteStep c b : Nat) /\ Rel C mine w w' := by
  co_apply Exists.intro
  intro mine c b hc hb w₀
  have hF : Rel C mine w₀ w₀ := .refl ..
  co_apply callsC_of_wpC Tryz.func147 (by rfl) rfl
  simp only [Tryz.ntmps147, List.size_toArray, List.length_cons, List.length_nil, Nat.reduceAdd, Nat.reduceSub, Array.replicate_succ, Array.replicate_zero, List.push_toArray, List.append_toArray, List.nil_append, List.cons_append]
  have T := termsG C mine
  co_go T tr_rely hF (co_quiet T)
  co_apply wpC_loop T (fun a w => (∃ k, I147 c b a k) /\ Rel C mine w₀ w) (fun a _ => 8 - (intOf (a.tmps.getD 10 undef)).toNat) _ 8
  . exact ⟨⟨0, .mk (m := c ^^^ b) (Nat.xor_lt_two_pow (n := 16) (by omega) (by omega)) (by omega) rfl (by rw [wrap_byte hb, u16_xor_nat c b hc (by omega)]) rfl⟩, hF⟩
  . simp [intOf]
  . rintro _ w ⟨⟨k, m, s2, s3, s4, s5, s6, s7, s8, s9, s11, s12, s13, s14, s15, s16, s17, s18, s19, s20, s21, hm, hk, he, rfl⟩, hF⟩
    have HE : Hid (m = Pl.bsteps k (c ^^^ b)) := he
    clear he
    co_go T tr_rely hF (co_quiet T)
    co_split T (decide ((k : Int) < 8))
    . intro ht
      have hlt : k < 8 := by simp at ht; omega
      have hlt8 : k < 2 ^ 62 := by omega
      have hs : Hid (Pl.bsteps (k + 1) (c ^^^ b) = if m % 2 = 1 then (m / 2) ^^^ 40961 else m / 2) := by
        show Pl.bstep (Pl.bsteps k (c ^^^ b)) = _
        rw [<- HE.out]; rfl
      co_go T tr_rely hF (co_quiet T)
      co_split T (bits BinOp.and IntKind.u16 (m : Int) 1 == 1)
      . intro h1
        have ho : Hid (m % 2 = 1) := by
          rw [and1 m hm] at h1
          show m % 2 = 1
          simp at h1
          omega
        clear h1
        co_go T tr_rely hF (co_quiet T)
        refine ⟨⟨⟨k + 1, .mk (m := m / 2 ^^^ 40961) (Nat.xor_lt_two_pow (n := 16) (by omega) (by omega)) (by omega) (by rw [hs.out, if_pos ho.out]) (by rw [xorc m hm]) (vint (by rw [wrap_next hlt8]; omega))⟩, hF⟩, ?_⟩
        simp [intOf, wrap_next hlt8]; omega
      . intro h1
        have ho : Hid (¬ m % 2 = 1) := by
          rw [and1 m hm] at h1
          show ¬ m % 2 = 1
          simp at h1
          omega
        clear h1
        co_go T tr_rely hF (co_quiet T)
        refine ⟨⟨⟨k + 1, .mk (m := m / 2) (by omega) (by omega) (by rw [hs.out, if_neg ho.out]) (vint (by omega)) (vint (by rw [wrap_next hlt8]; omega))⟩, hF⟩, ?_⟩
        simp [intOf, wrap_next hlt8]; omega
    . intro ht
      have hk8 : Hid (k = 8) := by show k = 8; simp at ht; omega
      co_go T tr_rely hF (co_quiet T)
      refine ⟨rfl, _, resultsC_tmp (by rfl) _, ?_, hF⟩
      show Value.int .u16 (m : Nat) = _
      rw [HE.out, hk8.out]
      rfl
def I118 (s : ByteArray) (a : Act) : Prop := ∃ k m : Nat, ∃ s1 s2 s4 s5 s8 s9 s10 s11 s12 s13 s14 s15 s16 : Value, m < 65536 /\ k <= s.size /\ m = Pl.crc (s.data.toList.take k) /\
  a = ⟨#[.string s, s1, s2, .int .u16 m, s4, s5, .int .i64 s.size, .int .i64 k, s8, s9, s10, s11, s12, s13, s14, s15, s16], []⟩
theorem I118.mk {s : ByteArray} {m k : Nat} {s1 s2 v3 s4 s5 v7 s8 s9 s10 s11 s12 s13 s14 s15 s16 : Value} (hm : m < 65536) (hk : k <= s.size) (he : m = Pl.crc (s.data.toList.take k)) (h0 : v3 = .int .u16 m) (h1 : v7 = .int .i64 k) : I118 s ⟨#[.string s, s1, s2, v3, s4, s5, .int .i64 s.size, v7, s8, s9, s10, s11, s12, s13, s14, s15, s16], []⟩ := by
  subst h0 h1
  exact ⟨k, m, _, _, _, _, _, _, _, _, _, _, _, _, _, hm, hk, he, rfl⟩
theorem check_c (C : Ch) (main : Bool) (N : Nat) (hN : N < 2 ^ 62) : ∃ n, ∀ (mine : List Nat) (s : ByteArray), s.size <= N -> ∀ w : World, CallsC Tryz.prog main (Rel C mine) (DG C mine) 118 #[.string s] n w fun v w' => v = .int .u16 (Pl.crc s.data.toList : Nat) /\ Rel C mine w w' := by
  obtain ⟨nb, hcb⟩ := checkByte_c C main
  co_apply Exists.intro
  intro mine s hs w₀
  have hsz : s.size <= 2 ^ 63 - 1 := by omega
  have hF : Rel C mine w₀ w₀ := .refl ..
  co_apply callsC_of_wpC Tryz.func118 (by rfl) rfl
  simp only [Tryz.ntmps118, List.size_toArray, List.length_cons, List.length_nil, Nat.reduceAdd, Nat.reduceSub, Array.replicate_succ, Array.replicate_zero, List.push_toArray, List.append_toArray, List.nil_append, List.cons_append]
  have T := termsG C mine
  co_go T tr_rely hF ((rw [listed_nil (by simp [go_sem, ev_len, *])]; exact Terms.idle T _))
  co_apply wpC_loop T (fun a w => I118 s a /\ Rel C mine w₀ w) (fun a _ => s.size - (intOf (a.tmps.getD 7 undef)).toNat) _ N
  . exact ⟨⟨0, 65535, _, _, _, _, _, _, _, _, _, _, _, _, _, by omega, by omega, rfl, rfl⟩, hF⟩
  . simp [intOf]; omega
  . rintro _ w ⟨⟨k, m, s1, s2, s4, s5, s8, s9, s10, s11, s12, s13, s14, s15, s16, hm, hk, he, rfl⟩, hF⟩
    have HE : Hid (m = Pl.crc (s.data.toList.take k)) := he
    clear he
    co_go T tr_rely hF (co_quiet T)
    co_split T (decide ((k : Int) < s.size))
    . intro ht
      have hlt : k < s.size := by simp at ht; omega
      have hs1 : Hid (Pl.crc (s.data.toList.take (k + 1)) = Pl.byteStep m s[k].toNat) := by show _ = _; rw [Pl.crc_take s k hlt, HE.out]
      have hb : s[k].toNat < 256 := s[k].toNat_lt
      have hl : Hid (Pl.byteStep m s[k].toNat < 65536) := Pl.byteStep_lt m _ hm hb
      clear ht
      co_go T tr_rely hF ((rw [listed_nil (by simp [go_sem, ev_index, *])]; exact Terms.idle T _))
      co_apply opsC_callE T rfl (by rfl) rfl (hcb mine m s[k].toNat hm hb _) (by walk_nrm)
      rintro v w' ⟨rfl, hr⟩
      replace hF := hF.trans hr
      clear hr
      walk_nrm
      co_go T tr_rely hF (co_quiet T)
      have hlt8 : k < 2 ^ 62 := by omega
      refine ⟨⟨.mk (k := k + 1) (m := Pl.byteStep m s[k].toNat) hl.out (by omega) hs1.out.symm rfl (vint (by rw [wrap_next hlt8]; omega)), hF⟩, ?_⟩
      simp [intOf, wrap_next hlt8]; omega
    . intro ht
      have hk8 : Hid (k = s.size) := by show k = s.size; simp at ht; omega
      co_go T tr_rely hF (co_quiet T)
      refine ⟨rfl, _, resultsC_tmp (by rfl) _, ?_, hF⟩
      show Value.int .u16 (m : Nat) = _
      rw [HE.out, hk8.out, List.take_of_length_le (by simp)]
end Go.Proofs.YtcpldcojckhapaaGreat

set_option maxRecDepth 100000
namespace Go.Proofs.YtcpldcojckhapaaGreat
open Go.RowKit
theorem Tryz.info5 : (Tryz.prog.info? 5).map (fun i => (i.zero, i.size, i.bytes)) = some (some (.int .u8 0), 1, 1) := by kernel_rfl
set_option maxRecDepth 100000 in
set_option maxHeartbeats 1000000 in
theorem slClone_any (s : ByteArray) (w : World) (hs : s.size <= 4194304) :
    Calls Tryz.prog 112 #[.string s] w fun e w' => e = .returned (.string s) /\ Below w.heap.size w w' := by
  by_cases h0 : s.size = 0
  . obtain rfl : s = ⟨#[]⟩ := ByteArray.ext (Array.eq_empty_of_size_eq_zero h0)
    go_enter Tryz.func112, Tryz.ntmps112
    go_wp2
    go_ret
    exact ⟨rfl, Below.refl _ _⟩
  . obtain ⟨i0, hi, hz0, hz1, hz2⟩ := info_parts Tryz.info5
    have hinfo : (Tryz.prog.info? 5).map (·.size) = some 1 := by rw [hi]; simp [hz1]
    have hco : Tryz.prog.cellsOf 5 = 1 := by kernel_rfl
    obtain ⟨M, hM⟩ : ∃ M, M = madeCells (Value.int .u8 0).cells (((s.size : Nat) : Int).toNat * i0.size) := ⟨_, rfl⟩
    have hMs : M.size = s.size := by rw [hM, size_madeCells, hz1]; simp
    have hmk : ∀ W : World, (Instr.makeSlice 114 (.int .i64 (s.size : Int)) (.int .i64 (s.size : Int))).run Tryz.prog W = .ok (.slice (some ⟨W.heap.size, 0, none⟩) s.size s.size) (W.alloc (.cells M 5)) := fun W => by
      have h := run_make (P := Tryz.prog) W 114 5 i0 (.int .u8 0) Tryz.underlying114 hi hz0 .i64 .i64 (s.size : Int) (s.size : Int) (by omega) (by omega) (by rw [hz2]; omega) (by omega)
      rw [<- hM] at h
      simpa using h
    clear hM
    have hcp := Lib.run_copy_row_string (P := Tryz.prog) (w.alloc (.cells M 5)) 114 9 3 5 w.heap.size 0 s.size s.size s M 5 Tryz.underlying114 hinfo (heap_alloc_new w _) (Nat.le_refl _) (by omega)
    obtain ⟨Y, hY⟩ : ∃ Y, Y = (M.toList.take 0 ++ Lib.byteCells s.data.toList ++ M.toList.drop (0 + s.size)).toArray := ⟨_, rfl⟩
    rw [<- hY] at hcp
    have hYl : Y.toList = Lib.byteCells s.data.toList := by
      rw [hY, List.toList_toArray, List.take_zero, List.nil_append, List.drop_of_length_le (by rw [Array.length_toList]; omega), List.append_nil]
    have hYs : Y.size = s.size := by rw [<- Array.length_toList, hYl, Lib.byteCells_length, <- Lib.size_eq]
    have hgY : ((w.alloc (.cells M 5)).setRow w.heap.size Y).heap[w.heap.size]? = some (.cells Y 5 (0, 0)) := setRow_heap _ _ M _ 5 (0, 0) (heap_alloc_new w _)
    have hne : s.data.toList ≠ [] := fun e => h0 (by rw [Lib.size_eq, e]; rfl)
    have hUS := Lib.run_unsafeString_row (P := Tryz.prog) ((w.alloc (.cells M 5)).setRow w.heap.size Y) 217 3 9 5 Tryz.underlying217 hco w.heap.size Y.size (by unfold World.shape?; rw [hgY]) s.data.toList hne (by rw [<- Lib.size_eq]; omega) (by rw [<- Lib.size_eq]; omega)
      (fun j x hx => Lib.cells_of_row hgY Y.size j _ (by rw [List.take_of_length_le (by rw [Array.length_toList]; exact Nat.le_refl _), hYl]; simp [Lib.byteCells, hx]))
    rw [<- Lib.size_eq] at hUS
    clear hY
    go_enter Tryz.func112, Tryz.ntmps112
    go_wp2
    go_ret
    have hb1 : Below w.heap.size w (w.alloc (.cells M 5)) := (Below.refl _ w).alloc (Nat.le_refl _) _
    have hb2 : Below w.heap.size (w.alloc (.cells M 5)) ((w.alloc (.cells M 5)).setRow w.heap.size Y) := ⟨rfl, rfl, rfl, by simp, fun k hk => setRow_other _ _ _ _ (by omega)⟩
    exact ⟨rfl, Lib.below_freeze (hb1.trans hb2) (p := ⟨w.heap.size, 0, none⟩) (Nat.le_refl _) _⟩
set_option maxRecDepth 100000 in
set_option maxHeartbeats 400000 in
theorem clone_any (s : ByteArray) (w : World) (hs : s.size <= 4194304) :
    Calls Tryz.prog 76 #[.string s] w fun e w' => e = .returned (.string s) /\ Below w.heap.size w w' := by
  go_enter Tryz.func76, Tryz.ntmps76
  go_wp2_with fail
  refine (slClone_any s _ hs).mono ?_
  rintro e w' ⟨rfl, hb⟩
  go_wp2
  go_ret
  exact ⟨rfl, hb⟩
end Go.Proofs.YtcpldcojckhapaaGreat

set_option maxRecDepth 100000
namespace Go.Proofs.YtcpldcojckhapaaGreat
open Go.Conc Go.RowKit
structure Sits (C : Ch) (m : List Nat) (w : World) : Prop where
  base : C.base <= w.heap.size
  mine : ∀ b ∈ m, b < w.heap.size
structure Grew (C : Ch) (m₀ : List Nat) (w₀ : World) (m : List Nat) (w : World) : Prop where
  rel : Rel C m₀ w₀ w
  sub : ∀ b ∈ m₀, b ∈ m
  sits : Sits C m w
  sits0 : Sits C m₀ w₀
section
variable {C : Ch} {m₀ m m' : List Nat} {w₀ w w' w₁ : World}
theorem Sits.rel (h : Sits C m w) (hr : Rel C m w w₁) : Sits C m w₁ := ⟨Nat.le_trans h.base hr.size, fun b hb => Nat.lt_of_lt_of_le (h.mine b hb) hr.size⟩
theorem Grew.refl (h : Sits C m w) : Grew C m w m w := ⟨.refl .., fun _ h => h, h, h⟩
theorem Rel.less (hr : Rel C m w w₁) (hs : ∀ b ∈ m₀, b ∈ m) : Rel C m₀ w w₁ := ⟨hr.tape, hr.os, hr.output, hr.size, fun b hb => hr.keep b (hb.imp id (hs b))⟩
theorem Grew.step (h : Grew C m₀ w₀ m w) (hr : Rel C m w w₁) : Grew C m₀ w₀ m w₁ := ⟨h.rel.trans (hr.less h.sub), h.sub, h.sits.rel hr, h.sits0⟩
theorem Grew.trans (h : Grew C m₀ w₀ m w) (k : Grew C m w m' w') : Grew C m₀ w₀ m' w' := ⟨h.rel.trans (k.rel.less h.sub), fun b hb => k.sub b (h.sub b hb), k.sits, h.sits0⟩
theorem alloc_size (x : Obj) : (w.alloc x).heap.size = w.heap.size + 1 := by show (w.heap.push x).size = _; simp
theorem Grew.alloc (h : Grew C m₀ w₀ m w) (x : Obj) : Grew C m₀ w₀ (w.heap.size :: m) (w.alloc x) := by
  have hsz := alloc_size (w := w) x
  refine ⟨h.rel.trans ⟨rfl, rfl, rfl, by omega, fun b hb => ?_⟩, fun b hb => List.mem_cons_of_mem _ (h.sub b hb), ⟨by have := h.sits.base; omega, fun b hb => ?_⟩, h.sits0⟩
  . have : b < w.heap.size := by
      rcases hb with hb | hb
      . exact Nat.lt_of_lt_of_le hb.1 h.sits.base
      . exact h.sits.mine b (h.sub b hb)
    show (w.heap.push x)[b]? = _
    rw [Array.getElem?_push, if_neg (by omega)]
  . rcases List.mem_cons.1 hb with rfl | hb
    . omega
    . have := h.sits.mine b hb; omega
def New (C : Ch) (m₀ : List Nat) (b : Nat) : Prop := b ∉ m₀ /\ ¬ Shared C b
theorem Grew.new (h : Grew C m₀ w₀ m w) : New C m₀ w.heap.size := ⟨fun hb => Nat.lt_irrefl _ (h.sits.mine _ (h.sub _ hb)), fun hb => by have := hb.1; have := h.sits.base; omega⟩
theorem Grew.turn (h : Grew C m₀ w₀ m w) {b : Nat} (hn : New C m₀ b) (h1 : w'.tape = w.tape) (h2 : w'.os = w.os) (h3 : w'.output = w.output) (h4 : w'.heap.size = w.heap.size) (h5 : ∀ x, x ≠ b -> w'.heap[x]? = w.heap[x]?) : Grew C m₀ w₀ m w' :=
  ⟨h.rel.trans ⟨h1, h2, h3, by omega, fun x hx => h5 x fun e => by subst e; exact hx.elim hn.2 hn.1⟩, h.sub, ⟨by rw [h4]; exact h.sits.base, fun b hb => by rw [h4]; exact h.sits.mine b hb⟩, h.sits0⟩
theorem Grew.row (h : Grew C m₀ w₀ m w) {b : Nat} (hn : New C m₀ b) (c : Array Value) : Grew C m₀ w₀ m (w.setRow b c) :=
  h.turn hn rfl rfl rfl (by simp) fun x hx => setRow_other w b x c hx
theorem freeze_other (w : World) (a : Addr) (n x : Nat) (hx : x ≠ a.block) : (w.freeze a n).heap[x]? = w.heap[x]? := by
  unfold World.freeze
  split
  . rfl
  . simp [Array.getElem?_modify, hx.symm]
theorem freeze_same (w : World) (a : Addr) (n : Nat) : (w.freeze a n).heap.size = w.heap.size /\ (w.freeze a n).tape = w.tape /\ (w.freeze a n).os = w.os /\ (w.freeze a n).output = w.output := by
  unfold World.freeze
  split <;> simp
theorem Grew.freeze (h : Grew C m₀ w₀ m w) {b : Nat} (hn : New C m₀ b) (n : Nat) : Grew C m₀ w₀ m (w.freeze ⟨b, 0, none⟩ n) := by
  obtain ⟨h1, h2, h3, h4⟩ := freeze_same w ⟨b, 0, none⟩ n
  exact h.turn hn h2 h3 h4 h1 fun x hx => freeze_other w _ n x hx
end
section
variable {P : Program} {C : Ch} {main : Bool} {fn : FuncId} {Q : PostB} {a : Act} {mine : List Nat} {w : World} {ops : Array Oper} {i : Nat} {rest : List Nat} {o : Oper} {n : Nat}
theorem make_ev (t e : TypeId) (i : TypeInfo) (z : Value) (ht : P.underlying t = some (.slice e)) (hi : P.info? e = some i) (hz : i.zero = some z) (n : Nat) (hb : n * i.bytes <= roomBytes) (h63 : n <= 9223372036854775807) :
    (Instr.makeSlice t (.int .i64 n) (.int .i64 n)).events P w #[] = #[] := by
  have wl : IntKind.i64.wrap n = n := by rw [IntKind.wrap_i64]; omega
  have n1 : ¬ (n : Int) < 0 := by omega
  have hb2 : i.bytes * n <= 281474976710656 := by rw [Nat.mul_comm]; unfold roomBytes at hb; omega
  have n2 : ¬ (281474976710656 < (i.bytes : Int) * n) := by
    have : ((i.bytes * n : Nat) : Int) <= 281474976710656 := by omega
    rw [Int.natCast_mul] at this
    omega
  have n3 : ¬ (n * i.bytes > roomBytes) := by omega
  by_cases hn : n * i.size = 0
  . simp [Instr.makeSlice, run_underlying ht, asInt, asIntOf, typeInfo, hi, sizeOf, wl, n1, n2, hn, newRow, askRoom, n3]
  . simp [Instr.makeSlice, run_underlying ht, asInt, asIntOf, typeInfo, hi, sizeOf, zeroValue, hz, wl, n1, n2, newRow, askRoom, n3]
theorem opsB_make (ho : ops[i]? = some o) (hw : Region.wanted o (yielded ops a.tmps) = true) {t : TypeId} {x y : Operand} (hop : o.op = .makeSlice t x y) {e : TypeId} {inf : TypeInfo} {z : Value} (ht : P.underlying t = some (.slice e)) (hi : P.info? e = some inf) (hz : inf.zero = some z)
    {N : Nat} (hx : a.eval x = .int .i64 N) (hy : a.eval y = .int .i64 N) (hb : N * inf.bytes <= roomBytes) (h63 : N <= 9223372036854775807)
    (h : ∀ w₁, Rel C mine w w₁ -> OpsB P C main fn ops rest n Q (a.put o.dst (.slice (some ⟨w₁.heap.size, 0, none⟩) N N)) (w₁.heap.size :: mine) (w₁.alloc (.cells (madeCells z.cells (N * inf.size)) e (0, 0)))) : OpsB P C main fn ops (i :: rest) (n + 1) Q a mine w := by
  refine opsB_cons ho hw fun w₁ h₁ => ?_
  have hb2 : inf.bytes * N <= 281474976710656 := by rw [Nat.mul_comm]; unfold roomBytes at hb; omega
  have hrm := run_make (P := P) w₁ t e inf z ht hi hz .i64 .i64 (N : Int) (N : Int) (by omega) (by omega) (by
    have : ((inf.bytes * N : Nat) : Int) <= 281474976710656 := by omega
    rwa [Int.natCast_mul] at this) (by omega)
  simp only [Int.toNat_natCast] at hrm
  have hr : (execOp a.eval o).run P w₁ = .ok (.value (.slice (some ⟨w₁.heap.size, 0, none⟩) N N)) (w₁.alloc (.cells (madeCells z.cells (N * inf.size)) e (0, 0))) := by
    unfold execOp
    simp only [hop, hx, hy, Sem.run_bind, hrm, Result.andThen_ok, Sem.run_pure]
  have he : (execOp a.eval o).events P w₁ #[] = #[] := by
    unfold execOp
    simp only [hop, hx, hy, Sem.events_bind, hrm, Result.evThen_ok, Sem.events_pure, make_ev t e inf z ht hi hz N hb h63]
  rw [hr]
  exact ⟨by rw [listed_nil he]; exact .alloc _, by rw [grow_alloc]; exact h w₁ h₁⟩
theorem copyS_ev (dT sT ty e : TypeId) (g : Nat) (s : ByteArray) (cur : Array Value) (t : TypeId) (hu : P.underlying dT = some (.slice e)) (hs : (P.info? e).map (·.size) = some 1) (hg : w.heap[g]? = some (.cells cur t (0, 0))) (hz : cur.size = s.size) :
    ∀ ev ∈ (Builtin.copy_ #[dT, sT] ty #[.slice (some ⟨g, 0, none⟩) s.size s.size, .string s]).events P w #[], ∃ ad, ev.loc = .cell ad /\ ad.block = g := by
  intro ev hev
  have hlen : (Lib.byteCells s.data.toList).length = s.size := by rw [Lib.byteCells_length, <- Lib.size_eq]
  have hmin : Nat.min s.size s.size = s.size := Nat.min_self _
  have htk : List.take s.size (List.map (fun b : UInt8 => Value.int IntKind.u8 (b.toNat : Int)) s.data.toList) = Lib.byteCells s.data.toList := by
    rw [List.take_of_length_le (by rw [List.length_map, <- Lib.size_eq]; exact Nat.le_refl _)]
    rfl
  cases hq : P.info? e with
  | none => simp [hq] at hs
  | some i =>
    simp [Builtin.copy_, run_underlying hu, Builtin.lenOf, Builtin.firstCells, sizeOf, typeInfo, hq, hmin] at hev
    rw [htk] at hev
    rcases events_storeCells_at g 0 t (Lib.byteCells s.data.toList) 0 cur w _ hg (by rw [hlen]; omega) (Lib.byteCells_one _) ev hev with h | h
    . simp at h
    . exact h
theorem opsB_copyS (ho : ops[i]? = some o) (hw : Region.wanted o (yielded ops a.tmps) = true) {dT sT e t : TypeId} {x y : Operand} (hop : o.op = .call { callee := .builtin .copy, args := #[x, y], argTypes := #[dT, sT] }) (ht : P.underlying dT = some (.slice e)) (hs : (P.info? e).map (·.size) = some 1)
    {g : Nat} {s : ByteArray} {cur : Array Value} (hx : a.eval x = .slice (some ⟨g, 0, none⟩) s.size s.size) (hy : a.eval y = .string s) (hg : g ∈ mine) (hc : w.heap[g]? = some (.cells cur t (0, 0))) (hz : cur.size = s.size)
    (h : ∀ w₁, Rel C mine w w₁ -> OpsB P C main fn ops rest n Q (a.put o.dst (goInt s.size)) mine (w₁.setRow g (Lib.byteCells s.data.toList).toArray)) : OpsB P C main fn ops (i :: rest) (n + 1) Q a mine w := by
  refine opsB_cons ho hw fun w₁ h₁ => ?_
  have hc' := h₁.look (.inr hg) hc
  have hrun := Lib.run_copy_row_string (P := P) w₁ dT sT o.type e g 0 s.size s.size s cur t ht hs hc' (Nat.le_refl _) (by omega)
  have hd : cur.toList.drop (0 + s.size) = [] := List.drop_eq_nil_of_le (by simp [hz])
  rw [hd, List.take_zero, List.nil_append, List.append_nil] at hrun
  have hr : (execOp a.eval o).run P w₁ = .ok (.value (goInt s.size)) (w₁.setRow g (Lib.byteCells s.data.toList).toArray) := by
    unfold execOp
    simp only [hop, resolve, invoke, builtin, Sem.run_bind, Sem.run_pure, Result.andThen_ok, List.map_toArray, List.map_cons, List.map_nil, hx, hy, hrun]
  rw [hr]
  refine ⟨.setRow _ hg fun ev he => ?_, by rw [grow_setRow]; exact h w₁ h₁⟩
  have hm := mem_listed he
  unfold execOp at hm
  simp only [hop, resolve, invoke, builtin, Sem.events_bind, Sem.run_pure, Sem.events_pure, Result.evThen_ok, List.map_toArray, List.map_cons, List.map_nil, hx, hy, hrun] at hm
  have hl : (Lib.byteCells s.data.toList).length = s.size := by rw [Lib.byteCells_length, <- Lib.size_eq]
  rcases copyS_ev dT sT o.type e g s cur t ht hs hc' hz ev hm with ⟨ad, e1, e2⟩
  exact evM_write hg e1 e2
theorem loadBytes_ev : ∀ (l : List UInt8) (a : Addr) (acc : ByteArray) (es : Array Event), (∀ j x, l[j]? = some x -> w.cell? (a.add j) = some (.int .u8 x.toNat)) -> ∀ ev ∈ (loadBytes a acc l.length).events P w es, ev ∈ es ∨ ev.readsIn (· = a.block)
  | [], a, acc, es, _ => fun ev h => .inl (by simpa [loadBytes] using h)
  | x :: l, a, acc, es, hc => fun ev h => by
    have h0 : w.cell? a = some (.int .u8 x.toNat) := by
      have := hc 0 x rfl
      rwa [show a.add 0 = a by unfold Addr.add; split <;> simp_all] at this
    have hr : (load a).run P w = .ok (.int .u8 x.toNat) w := by simp [h0]
    simp only [List.length_cons, loadBytes, Sem.events_bind, hr, Result.evThen_ok] at h
    rcases loadBytes_ev l (a.add 1) _ _ (fun j y hy => by
      have := hc (j + 1) y (by simpa using hy)
      rw [<- this]
      congr 1
      unfold Addr.add
      split <;> simp_all <;> omega) ev h with h | h
    . rcases events_load_at w a _ es h0 ev h with h | ⟨h1, h2⟩
      . exact .inl h
      . exact .inr ⟨_, h1, h2, rfl⟩
    . rw [addBlock] at h
      exact .inr h
theorem unsafe_ev (pt it ty e : TypeId) (hp : P.underlying pt = some (.pointer e)) (hc : P.cellsOf e = 1) (g cells : Nat) (hsh : w.shape? g = some (e, cells)) (l : List UInt8) (h0 : l ≠ []) (hn : l.length <= cells) (h63 : l.length <= 9223372036854775807)
    (hcell : ∀ j x, l[j]? = some x -> w.cell? ((⟨g, 0, none⟩ : Addr).add j) = some (.int .u8 x.toNat)) : ∀ ev ∈ (Builtin.unsafeString_ #[pt, it] ty #[.pointer (some ⟨g, 0, none⟩), .int .i64 l.length]).events P w #[], ev.readsIn (· = g) := by
  intro ev hev
  have hl : l.length ≠ 0 := by simpa using h0
  have hlb := Lib.run_loadBytes (P := P) w l ⟨g, 0, none⟩ .empty hcell
  have hlies := Lib.liesAt_bytes (P := P) hc (cells / P.cellsOf e) l.length (by rw [hc]; simpa using hn)
  have h63' : ¬ (9223372036854775807 : Int) < (l.length : Int) := by omega
  obtain ⟨s1, s2, s3, hdef⟩ : ∃ s1 s2 s3 : String, Builtin.unsafeString_ #[pt, it] ty #[.pointer (some ⟨g, 0, none⟩), .int .i64 l.length] =
      (do
        let n <- asInt (.int .i64 l.length)
        if n < 0 then runtimePanic (.error s1)
        if n > IntKind.i64.max then unsupported (.unsafePointer s2)
        if n = 0 then pure (.string .empty)
        else if <- variablesAt ⟨g, 0, none⟩ (<- elemOf pt) n.toNat then do
          let s <- loadBytes ⟨g, 0, none⟩ .empty n.toNat
          freeze ⟨g, 0, none⟩ n.toNat
          pure (.string s)
        else unsupported (.unsafePointer s3)) := ⟨_, _, _, rfl⟩
  rw [hdef] at hev
  have hmax : IntKind.i64.max = 9223372036854775807 := rfl
  have hneg : ¬ (l.length : Int) < 0 := by omega
  simp [asInt, asIntOf, hmax, h63', hneg, hl, variablesAt, hsh, elemOf, run_underlying hp, hlies, hlb] at hev
  rcases loadBytes_ev l ⟨g, 0, none⟩ .empty #[] hcell ev hev with h | h
  . simp at h
  . exact h
theorem opsB_unsafe (ho : ops[i]? = some o) (hw : Region.wanted o (yielded ops a.tmps) = true) {pt it e : TypeId} {x y : Operand} (hop : o.op = .call { callee := .builtin .unsafeString, args := #[x, y], argTypes := #[pt, it] }) (hp : P.underlying pt = some (.pointer e)) (hce : P.cellsOf e = 1)
    {g : Nat} {s : ByteArray} (hx : a.eval x = .pointer (some ⟨g, 0, none⟩)) (hy : a.eval y = .int .i64 s.size) (hg : g ∈ mine) (hc : w.heap[g]? = some (.cells (Lib.byteCells s.data.toList).toArray e (0, 0))) (h0 : s.size ≠ 0) (h63 : s.size <= 9223372036854775807)
    (h : ∀ w₁, Rel C mine w w₁ -> OpsB P C main fn ops rest n Q (a.put o.dst (.string s)) mine (w₁.freeze ⟨g, 0, none⟩ s.size)) : OpsB P C main fn ops (i :: rest) (n + 1) Q a mine w := by
  refine opsB_cons ho hw fun w₁ h₁ => ?_
  have hc' := h₁.look (.inr hg) hc
  have hl : s.data.toList.length = s.size := (Lib.size_eq s).symm
  have hne : s.data.toList ≠ [] := fun e => h0 (by rw [Lib.size_eq, e]; rfl)
  have hsh : w₁.shape? g = some (e, s.size) := by
    unfold World.shape?
    rw [hc']
    simp [Lib.byteCells_length, hl]
  have hcell : ∀ j z, s.data.toList[j]? = some z -> w₁.cell? ((⟨g, 0, none⟩ : Addr).add j) = some (.int .u8 z.toNat) := fun j z hz => by
    rw [Addr.add_mid]
    simp only [World.cell?, hc', Nat.zero_add]
    simp [Lib.byteCells, hz]
  have hrun := Lib.run_unsafeString_row (P := P) w₁ pt it o.type e hp hce g s.size hsh s.data.toList hne (by omega) (by omega) hcell
  have hev := unsafe_ev (P := P) (w := w₁) pt it o.type e hp hce g s.size hsh s.data.toList hne (by omega) (by omega) hcell
  rw [hl] at hrun hev
  have hr : (execOp a.eval o).run P w₁ = .ok (.value (.string s)) (w₁.freeze ⟨g, 0, none⟩ s.size) := by
    unfold execOp
    simp only [hop, resolve, invoke, builtin, Sem.run_bind, Sem.run_pure, Result.andThen_ok, List.map_toArray, List.map_cons, List.map_nil, hx, hy, hrun]
  rw [hr]
  obtain ⟨f1, f2, f3, f4⟩ := freeze_same w₁ ⟨g, 0, none⟩ s.size
  have hgr : grow mine w₁ (w₁.freeze ⟨g, 0, none⟩ s.size) = mine := by simp [grow, f1]
  refine ⟨⟨f2, f3, f4, by omega, fun b _ hb => freeze_other _ _ _ _ fun e => hb (e ▸ hg), fun ev he => ?_⟩, by rw [hgr]; exact h w₁ h₁⟩
  rw [hgr]
  have hm := mem_listed he
  unfold execOp at hm
  simp only [hop, resolve, invoke, builtin, Sem.events_bind, Sem.run_pure, Sem.events_pure, Result.evThen_ok, List.map_toArray, List.map_cons, List.map_nil, hx, hy, hrun] at hm
  exact evM_read (.inr hg) (hev ev hm)
theorem callsB_of_wpB {f : FuncId} {fc : Func} {c : Code} {args : Array Value} {Post : Value -> List Nat -> World -> Prop} (hf : P.funcs[f]? = some fc) (hname : (fc.name == "runtime.NumGoroutine") = false) (hb : fc.body = some c)
    (h : WpB P C main f c n (bodyPostB P C fc Post) { tmps := args ++ Array.replicate (fc.ntmps - args.size) undef, defers := [] } mine w) : CallsB P C main f args n mine w Post := ⟨fc, c, hf, hname, hb, h⟩
theorem opsB_callE {f : FuncId} {args : Array Operand} {ats : Array TypeId} {nf : Nat} {vals : Array Value} {Post : Value -> List Nat -> World -> Prop} (ho : ops[i]? = some o) (hw : Region.wanted o (yielded ops a.tmps) = true) (hop : o.op = .call { callee := .value (.func f), args, argTypes := ats })
    (hcall : CallsB P C main f vals nf mine w Post) (hargs : args.map a.eval = vals) (hnext : ∀ v m' w', Post v m' w' -> OpsB P C main fn ops rest n Q (a.put o.dst v) m' w') : OpsB P C main fn ops (i :: rest) (n + nf + 3) Q a mine w := opsB_call ho hw hop (hargs ▸ hcall) hnext
end
end Go.Proofs.YtcpldcojckhapaaGreat
