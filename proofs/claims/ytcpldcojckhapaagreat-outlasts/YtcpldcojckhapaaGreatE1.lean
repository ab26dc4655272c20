/-
  latch.newLines, latchkeep.sends, latchkeep.write, latch's send: what they answer.
-/
import Derived.Test.YtcpldcojckhapaaGreatD2
import Derived.Test.YtcpldcojckhapaaGreatK1
set_option maxRecDepth 100000
namespace Go.Proofs.YtcpldcojckhapaaGreat
open Go.RowKit

def writeB (a v : Nat) : ByteArray := ⟨#[6]⟩ ++ twoB a ++ twoB v
set_option maxRecDepth 100000 in
set_option maxHeartbeats 1000000 in
theorem writeK_any (a v : Nat) (w : World) (ha : a < 65536) (hv : v < 65536) :
    Calls Tryz.prog 22 #[.int .i64 (a : Nat), .int .i64 (v : Nat)] w fun e w' => e = .returned (.string (writeB a v)) ∧ Below w.heap.size w w' := by
  have z1 : (twoB a).size = 2 := rfl
  have z2 : (twoB v).size = 2 := rfl
  go_enter Tryz.func22, Tryz.ntmps22
  go_wp2_with fail
  refine (two_any a _ ha).mono ?_
  rintro e w1 ⟨rfl, hb1⟩
  have HB1 := hideF hb1
  clear hb1
  go_wp2_with fail
  refine (two_any v _ hv).mono ?_
  rintro e w2 ⟨rfl, hb2⟩
  have HB2 := hideF (bel_then HB1.out hb2)
  clear hb2
  go_wp2
  go_ret
  exact ⟨rfl, HB2.out⟩

/-- What acts send. -/
def sendsL (l : List (Int × Int × Int × ByteArray)) : List ByteArray := (l.filter fun x => x.1 == 2).map (·.2.2.2)
theorem sendsL_snoc (l : List (Int × Int × Int × ByteArray)) (x : Int × Int × Int × ByteArray) : sendsL (l ++ [x]) = sendsL l ++ (if x.1 == 2 then [x.2.2.2] else []) := by
  unfold sendsL
  rw [List.filter_append, List.map_append]
  congr 1
  by_cases h : x.1 == 2 <;> simp [h]
theorem cell_one_new (w : World) (a : Value) (t : TypeId) : ∀ j u, [a][j]? = some u → (w.alloc (.cells #[a] t)).cell? ((⟨w.heap.size, 0, none⟩ : Addr).add j) = some u := by
  intro j u hj
  match j, hj with
  | 0, hj => simp at hj; subst hj; simp [Addr.add]
theorem take_succ_at {α : Type} (l : List α) (q : Nat) (x : α) (h : l[q]? = some x) : l.take (q + 1) = l.take q ++ [x] := by
  rw [List.take_add_one, h]; rfl

set_option maxRecDepth 100000 in
set_option maxHeartbeats 1000000 in
theorem sends_any (l : List (Int × Int × Int × ByteArray)) (v : Value) (B : Nat) (w : World) (hl : l.length ≤ 100000) (hown : w.ownsRow B 77 4 v l.length (l.flatMap encA)) :
    Calls Tryz.prog 26 #[v] w fun e w' => ∃ u, e = .returned u ∧ w'.ownsRow w.heap.size 9 1 u (sendsL l).length ((sendsL l).flatMap encT) ∧ Below w.heap.size w w' := by
  obtain ⟨ad, c, rfl, hat⟩ := own_view hown
  obtain ⟨i0, hi, hz0, hz1, hz2⟩ := info_parts Tryz.infoET
  have HAT := hideF hat
  clear hat hown
  go_enter Tryz.func26, Tryz.ntmps26
  go_wp2_with fail
  go_loopw [4, 3] (fun i o wr => ∃ q : Nat, q ≤ l.length ∧ i = .int .i64 (q : Nat) ∧ wr.ownsRow w.heap.size 9 1 o (sendsL (l.take q)).length ((sendsL (l.take q)).flatMap encT) ∧ (sendsL (l.take q)).length ≤ q ∧ Below w.heap.size w wr) (fun i _ _ => l.length - (intOf i).toNat)
  case atStart => exact ⟨0, by omega, rfl, World.ownsRow_nil _ _ _ _, by simp [sendsL], Below.refl _ _⟩
  case round =>
    obtain ⟨q, hq, rfl, hown, hqs, hb⟩ := hrel
    by_cases hlt : q < l.length
    · obtain ⟨g, rfl, hgl, hcells⟩ := HAT.out q hlt
      have hx : l[q]? = some l[q] := List.getElem?_eq_getElem hlt
      obtain ⟨x, hxe⟩ : ∃ x, x = l[q] := ⟨_, rfl⟩
      rw [← hxe] at hx
      have hk : wr.cell? ⟨g, q * 4, none⟩ = some (.int .u8 x.1) := by
        rw [(bcell hb).1 g _ hgl, hcells _ (by omega)]
        have := flat_gen encA 4 (fun _ => rfl) l q 0 hlt (by omega)
        rw [Nat.add_zero] at this
        rw [this, hxe]; rfl
      have hd : wr.cell? ⟨g, q * 4 + 3, none⟩ = some (.string x.2.2.2) := by
        rw [(bcell hb).1 g _ hgl, hcells _ (by omega)]
        have := flat_gen encA 4 (fun _ => rfl) l q 3 hlt (by omega)
        rw [this, hxe]; rfl
      have HT := hideF (take_succ_at l q x hx)
      have HO := hideF hown
      have HB := hideF hb
      clear hx hxe hcells hown hb
      by_cases h2 : x.1 = 2
      · have t2 : (x.1 == 2) = true := by simp [h2]
        have HS : Hid (sendsL (l.take (q + 1)) = sendsL (l.take q) ++ [x.2.2.2]) := by show _ = _; rw [HT.out, sendsL_snoc, t2]; rfl
        clear h2
        go_wp2_with (at_builtin; refine wpList_append_own _ rfl (.tmp 17) (.tmp 23) 30 rfl w.heap.size 9 i0 (.string ⟨#[]⟩) 1 16 Tryz.underlying30 hi hz0 hz1 hz2 rfl (by decide) u3 (sendsL (l.take q)).length _ rfl (HO.out.alloc _) ⟨wr.heap.size, 0, none⟩ 1 1 [.string x.2.2.2] rfl rfl (cell_one_new _ _ _) (by intro u hu; simp at hu; subst hu; rfl) (by unfold maxLen; omega) (by omega) (by have := HB.out.size; simp; omega) ?_; intro v' w3 hown3 hgrow3 _)
        go_roundw
        case rel =>
          refine ⟨q + 1, by omega, by go_num, ?_, ?_, ?_⟩
          · rw [HS.out, List.length_append, List.flatMap_append]; exact hown3
          · rw [HS.out, List.length_append]; simp; omega
          · exact (HB.out.alloc HB.out.size _).grown hgrow3 (by have := HB.out.size; simp; omega) (fun k hk => (HO.out.lt k hk).1)
        case measure => simp [intOf]; omega
      · have t2 : (x.1 == 2) = false := by simp [h2]
        have HS : Hid (sendsL (l.take (q + 1)) = sendsL (l.take q)) := by show _ = _; rw [HT.out, sendsL_snoc, t2]; simp
        clear h2
        go_wp2_with fail
        go_roundw
        case rel =>
          refine ⟨q + 1, by omega, by go_num, ?_, ?_, HB.out⟩
          · rw [HS.out]; exact HO.out
          · rw [HS.out]; omega
        case measure => simp [intOf]; omega
    · obtain rfl : q = l.length := by omega
      have e : l.take l.length = l := List.take_length
      rw [e] at hown
      go_wp2
      go_ret
      exact ⟨_, rfl, hown, hb⟩
end Go.Proofs.YtcpldcojckhapaaGreat
