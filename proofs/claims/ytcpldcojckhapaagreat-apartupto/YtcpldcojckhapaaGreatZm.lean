/-
  
-/
import Derived.Test.YtcpldcojckhapaaGreatZl
set_option maxRecDepth 100000
set_option linter.unusedSimpArgs false
namespace Go.Proofs.YtcpldcojckhapaaGreat
open Go.Conc Go.RowKit
section
variable (a0 a1 : Option Addr) (n0 k0 n1 k1 : Nat) (x2 : Int) (w0 : World) (B d L S : Nat) (E : Nat -> Nat) (f : Nat -> ByteArray) (vals : Nat -> Int)
theorem apart_loop (hin : ApIn w0 B a0 a1 n0 n1 f vals) (Lc rest : Code) (hc : IsAp Lc rest) : ∀ (k i : Nat), i + k = n0 + 1 -> ∀ g, ApHead a0 a1 n0 k0 n1 k1 x2 B d Lc rest i g -> Tri Tryz.prog g (ApW w0 B d L S E (ApA f i) (apF n1 vals)) (ApEnd w0 B)
  | 0, i, h, g, hg => apart_last a0 a1 n0 k0 n1 k1 x2 w0 B d L S E vals Lc rest hc i (by omega) g hg _
  | k + 1, i, h, g, hg => apart_round a0 a1 n0 k0 n1 k1 x2 w0 B d L S E f vals hin Lc rest hc i (by omega) g hg (apart_loop hin Lc rest hc k (i + 1) (by omega))
set_option maxHeartbeats 4000000 in
theorem apart_tri (hin : ApIn w0 B a0 a1 n0 n1 f vals) (body : Code) (hbd : Tryz.f6.body = some body) :
    Tri Tryz.prog (G ((base 6).at { tmps := #[.slice a0 n0 k0, .slice a1 n1 k1, .int .i64 x2] ++ Array.replicate (Tryz.f6.ntmps - 3) undef, defers := [] } [.code body]) []) (Heap w0) (ApEnd w0 B) := by
  obtain ⟨Lc, rest, hc⟩ : ∃ Lc rest, IsAp Lc rest := ⟨_, _, _, _, _, _, _, _, rfl⟩
  have HLP : Hid (∀ d L S E g, ApHead a0 a1 n0 k0 n1 k1 x2 B d Lc rest 0 g -> Tri Tryz.prog g (ApW w0 B d L S E (ApA f 0) (apF n1 vals)) (ApEnd w0 B)) := fun d L S E g hg => apart_loop a0 a1 n0 k0 n1 k1 x2 w0 B d L S E f vals hin Lc rest hc (n0 + 1) 0 (by omega) g hg
  have HIN : Hid (ApIn w0 B a0 a1 n0 n1 f vals) := hin
  have hB0 := hin.hB
  clear hin
  have hb' := hbd.symm
  simp only [Tryz.f6, Option.some.injEq] at hb'
  subst hb'
  clear hbd
  obtain ⟨y0, y1, y2, y3, y5, y11, hb⟩ := hc
  have hb' := hb.symm
  simp only [Tryz.f6, Option.some.injEq, Code.seq.injEq, Code.block.injEq, Code.loop.injEq] at hb'
  obtain ⟨_, _, _, _, _, ⟨_, _, rfl⟩, rfl⟩ := hb'
  clear hb
  have hk : (base 6).kind ≠ .early := by simp [base]
  have hI := heap_cl w0
  simp only [Tryz.ntmps6, List.size_toArray, List.length_cons, List.length_nil, Nat.reduceAdd, Nat.reduceSub, Array.replicate_succ, Array.replicate_zero, List.push_toArray, List.append_toArray, List.nil_append, List.cons_append]
  co_apply Tr.seq hI
  (co_apply Tr.region hI; simp only [List.size_toArray, List.length_cons, List.length_nil, Nat.reduceAdd, Nat.zero_add, List.range, List.range.loop])
  (co_apply Tr.pure hI rfl (by rfl) hk (by intro _ K hK; go_simp; exact hK) (by intro _; simp [go_sem, ev_len, ev_index, ev_indexI, ev_slice_lo, ev_slice_hi, *]); walk_nrm)
  co_apply Tr.nil hI
  co_apply Tr.seq hI
  co_apply Tr.wpN fitV (by kernel_rfl) (slots6 _) hI
    (J := fun tm w' => tm = #[.slice a0 n0 k0, .slice a1 n1 k1, .int .i64 x2, undef, undef, undef, .bool false, .pointer (some ⟨B + 1, 0, none⟩), undef, undef, undef, undef, undef, undef, undef, undef, undef, undef, undef, undef, .agg #[.int .i64 4, .int .i64 4, .int .i64 4, .int .i64 20], .slice (some ⟨B, 0, none⟩) 3 3, .agg #[.int .i64 4, .int .i64 4, .int .i64 4, .int .i64 20, .int .i64 0, .int .i64 0, .int .i64 3, .slice (some ⟨B, 0, none⟩) 3 3, .int .i64 2], undef, undef, undef, undef, undef, undef, undef, undef, undef, undef, undef, undef, undef, undef, undef, undef, undef, undef, undef, undef, undef, undef, undef, undef, undef, undef, undef, undef, undef, undef, undef, undef, undef, undef, undef, undef, undef, undef, undef, undef, undef, undef, undef, undef, undef, undef, undef, undef, undef, undef, undef, undef, undef, undef, undef, undef, undef, undef, undef, undef, undef, undef, undef, undef, undef, undef, undef, undef, undef, undef, undef, undef, undef, undef, undef, undef, undef, undef, undef, undef, undef, undef, undef, undef, undef, undef, undef, undef, undef, undef, undef, undef, undef, undef, undef, undef, undef, undef, undef, undef, undef, undef] /\ Ap1 w0 B w')
    (fun _ w τ d ⟨e, h⟩ => ⟨e, Ap1.cl w τ d h⟩)
    (fun w hi => ap1_wp a0 a1 n0 k0 n1 k1 x2 w0 w B (by rw [hi.1]; exact hB0) (fun b _ => by rw [hi.1]) hi.2.1 hi.2.2)
  rintro tm gs w t ⟨rfl, hw⟩ hb
  refine (?_ : Tri Tryz.prog _ (Ap1 w0 B) (ApEnd w0 B)) gs w t hw hb
  clear hw hb gs w t hI
  have hI := Ap1.cl (w0 := w0) (B := B)
  dsimp only
  co_apply Tr.seq hI
  co_apply Tr.wpN fitV (by kernel_rfl) (slots6 _) hI
    (J := fun tm w' => ∃ d L S E v9, tm = #[.slice a0 n0 k0, .slice a1 n1 k1, .int .i64 x2, undef, undef, undef, .bool false, .pointer (some ⟨B + 1, 0, none⟩), .pointer (some ⟨d, 0, none⟩), v9, .slice none 0 0, undef, undef, undef, undef, undef, undef, undef, undef, undef, .agg #[.int .i64 4, .int .i64 4, .int .i64 4, .int .i64 20], .slice (some ⟨B, 0, none⟩) 3 3, .agg #[.int .i64 4, .int .i64 4, .int .i64 4, .int .i64 20, .int .i64 0, .int .i64 0, .int .i64 3, .slice (some ⟨B, 0, none⟩) 3 3, .int .i64 2], .tuple #[.pointer (some ⟨d, 0, none⟩), v9, .slice none 0 0], .agg #[.int .i64 4, .int .i64 4, .int .i64 4, .int .i64 20, .int .i64 0, .int .i64 0, .int .i64 3, .slice (some ⟨B, 0, none⟩) 3 3, .int .i64 2], .tuple #[.pointer (some ⟨d, 0, none⟩), v9, .slice none 0 0], .pointer (some ⟨d, 0, none⟩), v9, .slice none 0 0, undef, undef, undef, undef, undef, undef, undef, undef, undef, undef, undef, undef, undef, undef, undef, undef, undef, undef, undef, undef, undef, undef, undef, undef, undef, undef, undef, undef, undef, undef, undef, undef, undef, undef, undef, undef, undef, undef, undef, undef, undef, undef, undef, undef, undef, undef, undef, undef, undef, undef, undef, undef, undef, undef, undef, undef, undef, undef, undef, undef, undef, undef, undef, undef, undef, undef, undef, undef, undef, undef, undef, undef, undef, undef, undef, undef, undef, undef, undef, undef, undef, undef, undef, undef, undef, undef, undef, undef, undef, undef, undef, undef, undef, undef, undef, undef] /\ ApW w0 B d L S E 0 (fun _ => 0) w')
    (fun _ w τ dd ⟨d, L, S, E, v9, e, h⟩ => ⟨d, L, S, E, v9, e, ApW.cl w τ dd h⟩)
    (fun w hi => ap2_wp a0 a1 n0 k0 n1 k1 x2 w0 w B hi)
  rintro tm gs w t ⟨d, L, S, E, v9, rfl, hw⟩ hb
  refine (?_ : Tri Tryz.prog _ (ApW w0 B d L S E 0 (fun _ => 0)) (ApEnd w0 B)) gs w t hw hb
  clear hw hb gs w t hI
  have hI := ApW.cl (w0 := w0) (B := B) (d := d) (L := L) (S := S) (E := E) (A := 0) (vals := fun _ => 0)
  dsimp only
  co_apply Tr.seq hI
  co_apply Tr.wpN fitV (by kernel_rfl) (slots6 _) hI
    (J := fun tm w' => tm = #[.slice a0 n0 k0, .slice a1 n1 k1, .int .i64 x2, undef, undef, undef, .bool false, .pointer (some ⟨B + 1, 0, none⟩), .pointer (some ⟨d, 0, none⟩), v9, .slice none 0 0, undef, undef, undef, undef, undef, undef, undef, undef, undef, .agg #[.int .i64 4, .int .i64 4, .int .i64 4, .int .i64 20], .slice (some ⟨B, 0, none⟩) 3 3, .agg #[.int .i64 4, .int .i64 4, .int .i64 4, .int .i64 20, .int .i64 0, .int .i64 0, .int .i64 3, .slice (some ⟨B, 0, none⟩) 3 3, .int .i64 2], .tuple #[.pointer (some ⟨d, 0, none⟩), v9, .slice none 0 0], .agg #[.int .i64 4, .int .i64 4, .int .i64 4, .int .i64 20, .int .i64 0, .int .i64 0, .int .i64 3, .slice (some ⟨B, 0, none⟩) 3 3, .int .i64 2], .tuple #[.pointer (some ⟨d, 0, none⟩), v9, .slice none 0 0], .pointer (some ⟨d, 0, none⟩), v9, .slice none 0 0, .pointer (some ⟨d, 0, none⟩), .bool false, undef, undef, undef, undef, undef, undef, undef, undef, undef, undef, undef, undef, undef, undef, undef, undef, undef, undef, undef, undef, undef, undef, undef, undef, undef, undef, undef, undef, undef, undef, undef, undef, undef, undef, undef, undef, undef, undef, undef, undef, undef, undef, undef, undef, undef, undef, undef, undef, undef, undef, undef, undef, undef, undef, undef, undef, undef, undef, undef, undef, undef, undef, undef, undef, undef, undef, undef, undef, undef, undef, undef, undef, undef, undef, undef, undef, undef, undef, undef, undef, undef, undef, undef, undef, undef, undef, undef, undef, undef, undef, undef, undef, undef, undef] /\ ApW w0 B d L S E 0 (fun _ => 0) w')
    (fun _ w τ dd ⟨e, h⟩ => ⟨e, ApW.cl w τ dd h⟩)
    (fun w hi => ap3_wp a0 a1 n0 k0 n1 k1 x2 w B d v9 _ hi)
  rintro tm gs w t ⟨rfl, hw⟩ hb
  refine (?_ : Tri Tryz.prog _ (ApW w0 B d L S E 0 (fun _ => 0)) (ApEnd w0 B)) gs w t hw hb
  clear hw hb gs w t
  dsimp only
  co_apply Tr.seq hI
  co_apply Tr.wpN fitV (by kernel_rfl) (slots6 _) hI
    (J := fun tm w' => ∃ s : Nat -> Value, tm = #[.slice a0 n0 k0, .slice a1 n1 k1, .int .i64 x2, s 3, s 4, s 5, s 6, .pointer (some ⟨B + 1, 0, none⟩), .pointer (some ⟨d, 0, none⟩), s 9, s 10, s 11, s 12, s 13, s 14, s 15, s 16, s 17, s 18, s 19, s 20, s 21, s 22, s 23, s 24, s 25, s 26, s 27, s 28, s 29, s 30, s 31, s 32, s 33, s 34, s 35, s 36, s 37, s 38, s 39, s 40, s 41, s 42, s 43, s 44, s 45, s 46, s 47, s 48, s 49, s 50, s 51, s 52, s 53, s 54, s 55, s 56, s 57, s 58, s 59, s 60, s 61, s 62, s 63, s 64, s 65, s 66, s 67, s 68, s 69, s 70, s 71, s 72, s 73, s 74, s 75, s 76, s 77, s 78, s 79, s 80, s 81, s 82, s 83, s 84, s 85, s 86, s 87, s 88, s 89, s 90, s 91, s 92, s 93, s 94, s 95, s 96, s 97, s 98, s 99, s 100, s 101, s 102, s 103, s 104, s 105, s 106, s 107, s 108, s 109, s 110, s 111, s 112, s 113, s 114, s 115, s 116, s 117, s 118, s 119, s 120, s 121, s 122, s 123, s 124] /\ ApW w0 B d L S E 0 (apF n1 vals) w')
    (fun _ w τ dd ⟨s, e, h⟩ => ⟨s, e, ApW.cl w τ dd h⟩)
    (fun w hi => ap5_wp a0 a1 n0 k0 n1 k1 x2 w0 w B d L S E v9 vals HIN.out.values hB0 HIN.out.hn1 hi)
  rintro tm gs w t ⟨s, rfl, hw⟩ hb
  refine (?_ : Tri Tryz.prog _ (ApW w0 B d L S E 0 (apF n1 vals)) (ApEnd w0 B)) gs w t hw hb
  clear hw hb gs w t hI
  have hI := ApW.cl (w0 := w0) (B := B) (d := d) (L := L) (S := S) (E := E) (A := 0) (vals := apF n1 vals)
  dsimp only
  co_apply Tr.seq hI
  co_apply Tr.seq hI
  (co_apply Tr.region hI; simp only [List.size_toArray, List.length_cons, List.length_nil, Nat.reduceAdd, Nat.zero_add, List.range, List.range.loop])
  (co_apply Tr.pure hI rfl (by rfl) hk (by intro _ K hK; go_simp; exact hK) (by intro _; simp [go_sem, ev_len, ev_index, ev_indexI, ev_slice_lo, ev_slice_hi, *]); walk_nrm)
  co_apply Tr.nil hI
  co_apply Tr.block hI
  co_apply Tr.loop hI
  refine Tr.shape (mkT := fun s => #[.slice a0 n0 k0, .slice a1 n1 k1, .int .i64 x2, s 3, s 4, s 5, s 6, .pointer (some ⟨B + 1, 0, none⟩), .pointer (some ⟨d, 0, none⟩), s 9, s 10, s 11, s 12, .int .i64 ((0 : Nat) : Int), s 14, s 15, s 16, s 17, s 18, s 19, s 20, s 21, s 22, s 23, s 24, s 25, s 26, s 27, s 28, s 29, s 30, s 31, s 32, s 33, s 34, s 35, s 36, s 37, s 38, s 39, s 40, s 41, s 42, s 43, s 44, s 45, s 46, s 47, s 48, s 49, s 50, s 51, s 52, s 53, s 54, s 55, s 56, s 57, s 58, s 59, s 60, s 61, s 62, s 63, s 64, s 65, s 66, s 67, s 68, s 69, s 70, s 71, s 72, s 73, s 74, s 75, s 76, s 77, s 78, s 79, s 80, s 81, s 82, s 83, s 84, s 85, s 86, s 87, s 88, s 89, s 90, s 91, s 92, s 93, s 94, s 95, s 96, s 97, s 98, s 99, s 100, s 101, s 102, s 103, s 104, s 105, s 106, s 107, s 108, s 109, s 110, s 111, s 112, s 113, s 114, s 115, s 116, s 117, s 118, s 119, s 120, s 121, s 122, s 123, s 124]) rfl (fun s9 => ?_)
  dsimp only
  exact HLP.out d L S E _ ⟨s9, rfl⟩
end
end Go.Proofs.YtcpldcojckhapaaGreat
