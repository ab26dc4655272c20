/-
  Package latchkeep's small functions: pick and two: what they answer.
  latch.newLines, latchkeep.sends, latchkeep.write, latch's send: what they answer.
-/
import Derived.Test.YtcpldcojckhapaaGreatBV
import Derived.Laws.IdiomStrings
import Derived.Test.YtcpldcojckhapaaGreatJ8
set_option maxRecDepth 100000
namespace Go.Proofs.YtcpldcojckhapaaGreat
open Go.RowKit

def pk (c n : Int) : Int := (if c < 0 then -(c + 1) else c) % n
theorem pk_nonneg (c n : Int) (h : 0 < n) : 0 ≤ pk c n := Int.emod_nonneg _ (by omega)
theorem pk_lt (c n : Int) (h : 0 < n) : pk c n < n := Int.emod_lt_of_pos _ h


theorem pk_neg (c n : Int) (hc : c < 0) (_h : 0 < n) : -((c + 1).tmod n) = pk c n := by
  unfold pk
  rw [if_pos hc, ← Int.neg_tmod, Int.tmod_eq_emod_of_nonneg (by omega)]
theorem pk_pos (c n : Int) (hc : 0 ≤ c) : c % n = pk c n := by unfold pk; rw [if_neg (by omega)]

set_option maxRecDepth 100000 in
set_option maxHeartbeats 400000 in
theorem pick_any (c n : Int) (w : World) (h1 : -9223372036854775808 ≤ c) (h2 : c ≤ 9223372036854775807) (h3 : 0 < n) (h4 : n ≤ 4294967296) :
    Calls Tryz.prog 18 #[.int .i64 c, .int .i64 n] w fun e w' => e = .returned (.int .i64 (pk c n)) ∧ w' = w := by
  have hn0 : (n == 0) = false := by simp; omega
  have hn1 : (n == -1) = false := by simp; omega
  by_cases hc : c < 0
  · go_enter Tryz.func18, Tryz.ntmps18
    go_wp2
    go_ret
    exact ⟨rint (pk_neg c n hc h3), rfl⟩
  · go_enter Tryz.func18, Tryz.ntmps18
    go_wp2
    go_ret
    exact ⟨rint (pk_pos c n hc), rfl⟩

/-- 'string([]byte{..})' of one byte and of two, the row new. -/
theorem conv1 (W : World) (x : Int) : (convert 114 9 (.slice (some ⟨W.heap.size, 0, none⟩) 1 1)).run Tryz.prog (W.alloc (.cells #[.int .u8 x] 5)) = .ok (.string ⟨#[UInt8.ofNat x.toNat]⟩) (W.alloc (.cells #[.int .u8 x] 5)) := by
  rw [run_convert_bytes_string _ 114 9 5 _ 1 1 Tryz.underlying114 Tryz.underlying5 Tryz.underlying9, run_bytesToString _ _ 1 1 [x]]
  · rfl
  · have h := run_loadCells_list (P := Tryz.prog) (W.alloc (.cells #[.int .u8 x] 5)) ⟨W.heap.size, 0, none⟩ [.int .u8 x] (fun j v hj => by
      match j, hj with
      | 0, hj => simp at hj; subst hj; simp [Addr.add])
    simpa using h
theorem conv2 (W : World) (x y : Int) : (convert 114 9 (.slice (some ⟨W.heap.size, 0, none⟩) 2 2)).run Tryz.prog (W.alloc (.cells #[.int .u8 x, .int .u8 y] 5)) = .ok (.string ⟨#[UInt8.ofNat x.toNat, UInt8.ofNat y.toNat]⟩) (W.alloc (.cells #[.int .u8 x, .int .u8 y] 5)) := by
  rw [run_convert_bytes_string _ 114 9 5 _ 2 2 Tryz.underlying114 Tryz.underlying5 Tryz.underlying9, run_bytesToString _ _ 2 2 [x, y]]
  · rfl
  · have h := run_loadCells_list (P := Tryz.prog) (W.alloc (.cells #[.int .u8 x, .int .u8 y] 5)) ⟨W.heap.size, 0, none⟩ [.int .u8 x, .int .u8 y] (fun j v hj => by
      match j, hj with
      | 0, hj => simp at hj; subst hj; simp [Addr.add]
      | 1, hj => simp at hj; subst hj; simp [Addr.add])
    simpa using h

def twoB (n : Nat) : ByteArray := ⟨#[UInt8.ofNat (n / 256), UInt8.ofNat (n % 256)]⟩
set_option maxRecDepth 100000 in
set_option maxHeartbeats 400000 in
theorem two_any (n : Nat) (w : World) (h4 : n < 65536) :
    Calls Tryz.prog 29 #[.int .i64 (n : Nat)] w fun e w' => e = .returned (.string (twoB n)) ∧ Below w.heap.size w w' := by
  have c2 := conv2
  go_enter Tryz.func29, Tryz.ntmps29
  go_wp2
  go_ret
  exact ⟨rfl, (Below.refl _ _).alloc (Nat.le_refl _) _⟩

theorem conv1_at (W : World) (g : Nat) (x : Int) (hc : W.cell? ⟨g, 0, none⟩ = some (.int .u8 x)) : (convert 114 9 (.slice (some ⟨g, 0, none⟩) 1 1)).run Tryz.prog W = .ok (.string ⟨#[UInt8.ofNat x.toNat]⟩) W := by
  rw [run_convert_bytes_string _ 114 9 5 _ 1 1 Tryz.underlying114 Tryz.underlying5 Tryz.underlying9, run_bytesToString _ _ 1 1 [x]]
  · rfl
  · have h := run_loadCells_list (P := Tryz.prog) W ⟨g, 0, none⟩ [.int .u8 x] (fun j v hj => by
      match j, hj with
      | 0, hj => simp at hj; subst hj; simpa [Addr.add] using hc)
    simpa using h
theorem enter25 (x : Value) (w : World) : (callFunc 29 #[x]).run Tryz.prog w = .ok (.enter 29 #[x]) w := by kernel_rfl
theorem two_step (x : Int) (n : Nat) (hx : x = n) (w : World) (h4 : n < 65536) :
    Calls Tryz.prog 29 #[.int .i64 x] w fun e w' => ∃ v, e = .returned v ∧ (v = .string (twoB n) ∧ Below w.heap.size w w') := by
  subst hx
  refine (two_any n w h4).mono ?_
  rintro e w' ⟨rfl, hb⟩
  exact ⟨_, rfl, rfl, hb⟩

end Go.Proofs.YtcpldcojckhapaaGreat

set_option maxRecDepth 100000
namespace Go.Proofs.YtcpldcojckhapaaGreat
open Go.RowKit

def writeB (a v : Nat) : ByteArray := ⟨#[6]⟩ ++ twoB a ++ twoB v
set_option maxRecDepth 100000 in
set_option maxHeartbeats 1000000 in
theorem writeK_any (a v : Nat) (w : World) (ha : a < 65536) (hv : v < 65536) :
    Calls Tryz.prog 22 #[.int .i64 (a : Nat), .int .i64 (v : Nat)] w fun e w' => e = .returned (.string (writeB a v)) ∧ Below w.heap.size w w' := by
  have z1 : (twoB a).size = 2 := rfl
  have z2 : (twoB v).size = 2 := rfl
  go_enter Tryz.func22, Tryz.ntmps22
  go_wp2_with fail
  refine (two_any a _ ha).mono ?_
  rintro e w1 ⟨rfl, hb1⟩
  have HB1 := hideF hb1
  clear hb1
  go_wp2_with fail
  refine (two_any v _ hv).mono ?_
  rintro e w2 ⟨rfl, hb2⟩
  have HB2 := hideF (bel_then HB1.out hb2)
  clear hb2
  go_wp2
  go_ret
  exact ⟨rfl, HB2.out⟩

/-- What acts send. -/
def sendsL (l : List (Int × Int × Int × ByteArray)) : List ByteArray := (l.filter fun x => x.1 == 2).map (·.2.2.2)
theorem sendsL_snoc (l : List (Int × Int × Int × ByteArray)) (x : Int × Int × Int × ByteArray) : sendsL (l ++ [x]) = sendsL l ++ (if x.1 == 2 then [x.2.2.2] else []) := by
  unfold sendsL
  rw [List.filter_append, List.map_append]
  congr 1
  by_cases h : x.1 == 2 <;> simp [h]
theorem cell_one_new (w : World) (a : Value) (t : TypeId) : ∀ j u, [a][j]? = some u → (w.alloc (.cells #[a] t)).cell? ((⟨w.heap.size, 0, none⟩ : Addr).add j) = some u := by
  intro j u hj
  match j, hj with
  | 0, hj => simp at hj; subst hj; simp [Addr.add]
theorem take_succ_at {α : Type} (l : List α) (q : Nat) (x : α) (h : l[q]? = some x) : l.take (q + 1) = l.take q ++ [x] := by
  rw [List.take_add_one, h]; rfl

set_option maxRecDepth 100000 in
set_option maxHeartbeats 1000000 in
theorem sends_any (l : List (Int × Int × Int × ByteArray)) (v : Value) (B : Nat) (w : World) (hl : l.length ≤ 100000) (hown : w.ownsRow B 77 4 v l.length (l.flatMap encA)) :
    Calls Tryz.prog 26 #[v] w fun e w' => ∃ u, e = .returned u ∧ w'.ownsRow w.heap.size 9 1 u (sendsL l).length ((sendsL l).flatMap encT) ∧ Below w.heap.size w w' := by
  obtain ⟨ad, c, rfl, hat⟩ := own_view hown
  obtain ⟨i0, hi, hz0, hz1, hz2⟩ := info_parts Tryz.infoET
  have HAT := hideF hat
  clear hat hown
  go_enter Tryz.func26, Tryz.ntmps26
  go_wp2_with fail
  go_loopw [4, 3] (fun i o wr => ∃ q : Nat, q ≤ l.length ∧ i = .int .i64 (q : Nat) ∧ wr.ownsRow w.heap.size 9 1 o (sendsL (l.take q)).length ((sendsL (l.take q)).flatMap encT) ∧ (sendsL (l.take q)).length ≤ q ∧ Below w.heap.size w wr) (fun i _ _ => l.length - (intOf i).toNat)
  case atStart => exact ⟨0, by omega, rfl, World.ownsRow_nil _ _ _ _, by simp [sendsL], Below.refl _ _⟩
  case round =>
    obtain ⟨q, hq, rfl, hown, hqs, hb⟩ := hrel
    by_cases hlt : q < l.length
    · obtain ⟨g, rfl, hgl, hcells⟩ := HAT.out q hlt
      have hx : l[q]? = some l[q] := List.getElem?_eq_getElem hlt
      obtain ⟨x, hxe⟩ : ∃ x, x = l[q] := ⟨_, rfl⟩
      rw [← hxe] at hx
      have hk : wr.cell? ⟨g, q * 4, none⟩ = some (.int .u8 x.1) := by
        rw [(bcell hb).1 g _ hgl, hcells _ (by omega)]
        have := flat_gen encA 4 (fun _ => rfl) l q 0 hlt (by omega)
        rw [Nat.add_zero] at this
        rw [this, hxe]; rfl
      have hd : wr.cell? ⟨g, q * 4 + 3, none⟩ = some (.string x.2.2.2) := by
        rw [(bcell hb).1 g _ hgl, hcells _ (by omega)]
        have := flat_gen encA 4 (fun _ => rfl) l q 3 hlt (by omega)
        rw [this, hxe]; rfl
      have HT := hideF (take_succ_at l q x hx)
      have HO := hideF hown
      have HB := hideF hb
      clear hx hxe hcells hown hb
      by_cases h2 : x.1 = 2
      · have t2 : (x.1 == 2) = true := by simp [h2]
        have HS : Hid (sendsL (l.take (q + 1)) = sendsL (l.take q) ++ [x.2.2.2]) := by show _ = _; rw [HT.out, sendsL_snoc, t2]; rfl
        clear h2
        go_wp2_with (at_builtin; refine wpList_append_own _ rfl (.tmp 17) (.tmp 23) 30 rfl w.heap.size 9 i0 (.string ⟨#[]⟩) 1 16 Tryz.underlying30 hi hz0 hz1 hz2 rfl (by decide) u3 (sendsL (l.take q)).length _ rfl (HO.out.alloc _) ⟨wr.heap.size, 0, none⟩ 1 1 [.string x.2.2.2] rfl rfl (cell_one_new _ _ _) (by intro u hu; simp at hu; subst hu; rfl) (by unfold maxLen; omega) (by omega) (by have := HB.out.size; simp; omega) ?_; intro v' w3 hown3 hgrow3 _)
        go_roundw
        case rel =>
          refine ⟨q + 1, by omega, by go_num, ?_, ?_, ?_⟩
          · rw [HS.out, List.length_append, List.flatMap_append]; exact hown3
          · rw [HS.out, List.length_append]; simp; omega
          · exact (HB.out.alloc HB.out.size _).grown hgrow3 (by have := HB.out.size; simp; omega) (fun k hk => (HO.out.lt k hk).1)
        case measure => simp [intOf]; omega
      · have t2 : (x.1 == 2) = false := by simp [h2]
        have HS : Hid (sendsL (l.take (q + 1)) = sendsL (l.take q)) := by show _ = _; rw [HT.out, sendsL_snoc, t2]; simp
        clear h2
        go_wp2_with fail
        go_roundw
        case rel =>
          refine ⟨q + 1, by omega, by go_num, ?_, ?_, HB.out⟩
          · rw [HS.out]; exact HO.out
          · rw [HS.out]; omega
        case measure => simp [intOf]; omega
    · obtain rfl : q = l.length := by omega
      have e : l.take l.length = l := List.take_length
      rw [e] at hown
      go_wp2
      go_ret
      exact ⟨_, rfl, hown, hb⟩
end Go.Proofs.YtcpldcojckhapaaGreat
