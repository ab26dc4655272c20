/-
  Package pdu's span, sizedSpan, setting: what they answer.
-/
import Derived.Test.YtcpldcojckhapaaW1
namespace Go.Proofs.Ytcpldcojckhapaa
open Go.RowKit

theorem enter50 (x : Value) (w : World) : (callFunc 64 #[x]).run Try.prog w = .ok (.enter 64 #[x]) w := by kernel_rfl
theorem pword_step (s : ByteArray) (w : World) (h : 2 ≤ s.size) :
    Calls Try.prog 64 #[.string s] w fun e w' => ∃ v, e = .returned v ∧ (v = .int .i64 (Pl.wd s 0 : Nat) ∧ ∃ n, w' = w.drewN n) := by
  refine (pword_any s w h).mono ?_
  rintro e w' ⟨rfl, n, rfl⟩
  exact ⟨_, rfl, rfl, n, rfl⟩
theorem nat_beq (a b : Nat) : ((a : Int) == (b : Int)) = decide (a = b) := by rw [Bool.eq_iff_iff]; simp; omega
theorem drew_drew (w : World) (a b : Nat) : ∃ n, (w.drewN a).drewN b = w.drewN n := ⟨a + b, by rw [World.drewN_drewN]⟩
theorem wd_behind (s : ByteArray) (k : Nat) : Pl.wd (s.extract k s.size) 0 = Pl.wd s k := Pl.wd_suffix s k 0
set_option maxRecDepth 100000 in
set_option maxHeartbeats 1000000 in
theorem span_any (s : ByteArray) (m : Nat) (w : World) (h : 4 ≤ s.size) (hs : s.size ≤ 4194304) (_hm : m ≤ 4194304) :
    Calls Try.prog 63 #[.string s, .int .i64 (m : Nat)] w fun e w' => ∃ r : Bool, e = .returned (.tuple #[.int .i64 (Pl.wd s 0 : Nat), .int .i64 (Pl.wd s 2 : Nat), .bool r]) ∧ (r = true ↔ 1 ≤ Pl.wd s 2 ∧ Pl.wd s 2 ≤ m) ∧ ∃ n, w' = w.drewN n := by
  have hz : 2 ≤ (s.extract 2 s.size).size := by simp; omega
  have hl : 2 ≤ s.size := by omega
  have c0 := pword_step s
  have c2 : ∀ W : World, Calls Try.prog 64 #[.string (s.extract 2 s.size)] W fun e w' => ∃ v, e = .returned v ∧ (v = .int .i64 (Pl.wd s 2 : Nat) ∧ ∃ n, w' = W.drewN n) := fun W => by
    have := pword_step (s.extract 2 s.size) W hz
    rwa [wd_behind] at this
  have b2 := Pl.wd_lt s 2
  have b0 := Pl.wd_lt s 0
  have hl' : (2 : Int) ≤ s.size := by omega
  by_cases h1 : 1 ≤ Pl.wd s 2
  · by_cases h2 : Pl.wd s 2 ≤ m
    all_goals
      go_enter Try.func63, Try.ntmps63
      go_wp2_with fail
      go_region_law (first
        | (refine step_call rfl 64 #[.tmp 9] #[9] rfl #[.string s] (by simp [Act.eval, Act.put]) (enter50 _ _) _ (c0 _ hl) ?_; rintro v w1 ⟨rfl, n1, rfl⟩)
        | (refine step_call rfl 64 #[.tmp 12] #[9] rfl #[.string (s.extract 2 s.size)] (by simp [Act.eval]) (enter50 _ _) _ (c2 _) ?_; rintro v w2 ⟨rfl, n2, rfl⟩))
      all_goals go_wp2
      all_goals refine bodyPost_ret (v := .tuple #[.int .i64 (Pl.wd s 0 : Nat), .int .i64 (Pl.wd s 2 : Nat), .bool (decide (1 ≤ Pl.wd s 2 ∧ Pl.wd s 2 ≤ m))]) (by simp [results, Try.results63, go_sem, h1, h2]) rfl ⟨decide (1 ≤ Pl.wd s 2 ∧ Pl.wd s 2 ≤ m), rfl, by simp, ?_⟩
      all_goals exact ⟨_, rfl⟩
  · go_enter Try.func63, Try.ntmps63
    go_wp2_with fail
    go_region_law (first
      | (refine step_call rfl 64 #[.tmp 9] #[9] rfl #[.string s] (by simp [Act.eval, Act.put]) (enter50 _ _) _ (c0 _ hl) ?_; rintro v w1 ⟨rfl, n1, rfl⟩)
      | (refine step_call rfl 64 #[.tmp 12] #[9] rfl #[.string (s.extract 2 s.size)] (by simp [Act.eval]) (enter50 _ _) _ (c2 _) ?_; rintro v w2 ⟨rfl, n2, rfl⟩))
    all_goals go_wp2
    all_goals refine bodyPost_ret (v := .tuple #[.int .i64 (Pl.wd s 0 : Nat), .int .i64 (Pl.wd s 2 : Nat), .bool false]) (by simp [results, Try.results63, go_sem]) rfl ⟨rfl, ?_⟩
    all_goals exact ⟨_, rfl⟩

/-- A struct of package api: Shape, as a value. -/
def shV (x : Pl.Shp) (v : Value) : Value := .agg #[.int .i64 (x.fn : Nat), .int .i64 (x.tab : Nat), .int .i64 (x.frm : Nat), .int .i64 (x.cnt : Nat), .int .i64 (x.into : Nat), .int .i64 (x.to : Nat), .int .i64 (x.many : Nat), v]

set_option maxRecDepth 100000 in
set_option maxHeartbeats 1000000 in
theorem setting_any (t a n : Nat) (ad : Option Addr) (c : Nat) (w : World) (_hn : n ≤ 4194304) :
    Calls Try.prog 65 #[.int .i64 (t : Nat), .int .i64 (a : Nat), .slice ad n c] w fun e w' => e = .returned (.agg #[.int .i64 0, .int .i64 0, .int .i64 0, .int .i64 0, .int .i64 (t : Nat), .int .i64 (a : Nat), .int .i64 (n : Nat), .slice ad n c]) ∧ Below w.heap.size w w' := by
  go_enter Try.func65, Try.ntmps65
  go_wp2
  refine bodyPost_ret (v := .agg #[.int .i64 0, .int .i64 0, .int .i64 0, .int .i64 0, .int .i64 (t : Nat), .int .i64 (a : Nat), .int .i64 (n : Nat), .slice ad n c]) (by simp [results, Try.results65, go_sem]) rfl ⟨rfl, ?_⟩
  exact (Below.refl _ _).alloc (Nat.le_refl _) _

set_option maxRecDepth 100000 in
set_option maxHeartbeats 1000000 in
theorem sized_any (s : ByteArray) (m : Nat) (w : World) (hs : s.size ≤ 4194304) (hm : m ≤ 4194304) :
    Calls Try.prog 66 #[.string s, .int .i64 (m : Nat)] w fun e w' => ∃ r : Bool, (s.size ≤ 4 ∧ e = .returned (.tuple #[.int .i64 0, .int .i64 0, .string ⟨#[]⟩, .bool r]) ∧ r = false ∨
      4 < s.size ∧ e = .returned (.tuple #[.int .i64 (Pl.wd s 0 : Nat), .int .i64 (Pl.wd s 2 : Nat), .string (s.extract 5 s.size), .bool r]) ∧ (r = true ↔ (1 ≤ Pl.wd s 2 ∧ Pl.wd s 2 ≤ m) ∧ s.size - 5 = Pl.byt s 4)) ∧ ∃ n, w' = w.drewN n := by
  have gb := Pl.get_byt s
  by_cases h4 : s.size ≤ 4
  · go_enter Try.func66, Try.ntmps66
    go_wp2
    refine bodyPost_ret (v := .tuple #[.int .i64 0, .int .i64 0, .string ⟨#[]⟩, .bool false]) (by simp [results, Try.results66, go_sem]) rfl ⟨false, .inl ⟨h4, rfl, rfl⟩, 0, rfl⟩
  · have l4 : 4 < s.size := by omega
    have l5 : (5 : Int) ≤ s.size := by omega
    have b4 := Pl.byt_lt s 4
    have hsz : (s.extract 5 s.size).size = s.size - 5 := by simp
    have hb0 : Hid (Pl.byt s 4 < 256) := b4
    go_enter Try.func66, Try.ntmps66
    go_wp2_with fail
    refine (span_any s m _ (by omega) hs hm).mono ?_
    rintro e w1 ⟨r, rfl, hr0, n1, rfl⟩
    have hr := hideF hr0
    clear hr0
    obtain ⟨W, hW⟩ : ∃ W, W = w.drewN n1 := ⟨_, rfl⟩
    rw [← hW]
    have HW := hideF hW
    clear hW
    cases r with
    | false =>
      go_wp2_with fail
      go_quiet (fail)
      go_wp2
      refine bodyPost_ret (v := .tuple #[.int .i64 (Pl.wd s 0 : Nat), .int .i64 (Pl.wd s 2 : Nat), .string (s.extract 5 s.size), .bool false]) (by simp [results, Try.results66, go_sem]) rfl ⟨false, .inr ⟨l4, rfl, ?_⟩, by rw [HW.out]; exact drew_drew _ _ _⟩
      have := hr.out
      simp at this ⊢
      omega
    | true =>
      go_wp2_with fail
      go_quiet (fail)
      go_wp2
      refine bodyPost_ret (v := .tuple #[.int .i64 (Pl.wd s 0 : Nat), .int .i64 (Pl.wd s 2 : Nat), .string (s.extract 5 s.size), .bool (decide (s.size - 5 = Pl.byt s 4))]) (by simp [results, Try.results66, go_sem]; exact nat_beq _ _) rfl ⟨_, .inr ⟨l4, rfl, ?_⟩, by rw [HW.out]; exact drew_drew _ _ _⟩
      have := hr.out
      simp at this ⊢
      omega
end Go.Proofs.Ytcpldcojckhapaa
