/-
  
-/
import Derived.Test.YtcpldcojckhapaaGreatJ8
import Derived.Test.YtcpldcojckhapaaGreatJ7
set_option maxRecDepth 100000
namespace Go.Proofs.YtcpldcojckhapaaGreat
open Go.RowKit
set_option maxRecDepth 100000 in
set_option maxHeartbeats 2000000 in
theorem findLatest_gen (b g nd k sec a c lat st : Nat) (f : Nat -> ByteArray) (w : World) (hk : nd <= k) (hn : 2 * sec <= nd) (hn2 : nd <= 64) (hs1 : 1 <= sec) (hS : w.heap[b]? = some (.cells #[.int .i64 (sec : Nat), .int .i64 0, .int .u8 0] 155 (0, 0))) (hF : SecIn w g nd f) (hz : ∀ j, j < nd -> (f j).size = 64)
    (sA : a = stampC f 0 sec) (sB : c = stampC f sec sec) (hl : lat = latL a c) (hst : st = stL a c) :
    Calls Tryz.prog 92 #[.pointer (some ⟨b, 0, none⟩), .slice (some ⟨g, 0, none⟩) nd k] w fun e w' => e = .returned (.tuple #[]) /\ w'.heap[b]? = some (.cells #[.int .i64 (sec : Nat), .int .i64 (lat : Nat), .int .u8 (st : Nat)] 155 (0, 0)) /\ Chg1 b w w' := by
  have ha3 : a <= 3 := by rw [sA]; exact stampC_le _ _ _
  have hc3 : c <= 3 := by rw [sB]; exact stampC_le _ _ _
  have HF := hideF hF
  have HZ := hideF hz
  have HSA := hideF sA
  have HSB := hideF sB
  have HL := hideF hl
  have HT := hideF hst
  obtain ⟨b0, b1, b2, bf⟩ := cells3f hS
  have HS := hideF hS
  clear hF hz sA sB hl hst hS
  go_enter Tryz.func92, Tryz.ntmps92
  go_wp2_with fail
  refine (copyOn_gen b g nd k sec 0 _ hk hn (by omega) hs1 (by omega) b0).mono ?_
  rintro e w1 ⟨he1, n1, rfl⟩
  rw [Nat.zero_mul, Nat.sub_zero] at he1
  subst he1
  go_wp2_with fail
  refine (stampOf_gen g 0 k sec a f _ hs1 (by omega) (by intro i hi; exact HF.out (0 + i) (by omega)) (fun i hi => HZ.out (0 + i) (by omega)) HSA.out).mono ?_
  rintro e w2 ⟨rfl, rfl⟩
  go_wp2_with fail
  refine (copyOn_gen b g nd k sec 1 _ hk hn (by omega) hs1 (by omega) (by simpa using b0)).mono ?_
  rintro e w3 ⟨he3, n3, rfl⟩
  rw [Nat.one_mul] at he3
  subst he3
  go_wp2_with fail
  refine (stampOf_gen g sec (k - sec) sec c f _ hs1 (by omega) (by intro i hi; exact HF.out (sec + i) (by omega)) (fun i hi => HZ.out (sec + i) (by omega)) HSB.out).mono ?_
  rintro e w4 ⟨rfl, rfl⟩
  obtain ⟨W, hW⟩ : ∃ W, W = w.drewN (n1 + n3) := ⟨_, rfl⟩
  rw [<- hW]
  have HWS : Hid (W.heap[b]? = some (.cells #[.int .i64 (sec : Nat), .int .i64 0, .int .u8 0] 155 (0, 0))) := by show _ = _; rw [hW]; simpa using HS.out
  have HWC : Hid (Chg1 b w W) := by rw [hW]; exact (Chg1.refl b w).drewN _
  obtain ⟨x0, x1, x2, xf⟩ := cells3f HWS.out
  clear hW b0 b1 b2 bf
  have fin : ∀ p q : Value, p = .int .i64 (lat : Nat) -> q = .int .u8 (st : Nat) -> ((W.setCell ⟨b, 1, none⟩ p).setCell ⟨b, 2, none⟩ q).heap[b]? = some (.cells #[.int .i64 (sec : Nat), .int .i64 (lat : Nat), .int .u8 (st : Nat)] 155 (0, 0)) /\ Chg1 b w ((W.setCell ⟨b, 1, none⟩ p).setCell ⟨b, 2, none⟩ q) := by
    rintro p q rfl rfl
    exact ⟨store_set _ _ HWS.out, (HWC.out.setCell _ _).setCell _ _⟩
  have HFI := hideF fin
  clear fin
  rcases Nat.eq_zero_or_pos c with rfl | hc
  . have HC1 : Hid (lat = 0 /\ st = a) := by have h1 := HL.out; have h2 := HT.out; unfold latL at h1; unfold stL at h2; simp at h1 h2; exact ⟨h1, h2⟩
    rcases Nat.eq_zero_or_pos a with rfl | ha
    . go_wp2
      go_end0
      refine ⟨rfl, ?_, HWC.out⟩
      rw [HC1.out.1, HC1.out.2]; exact HWS.out
    . have ta : ((a : Int) != 0) = true := by simp; omega
      go_wp2
      go_end0
      exact ⟨rfl, HFI.out _ _ (by rw [HC1.out.1]; rfl) (by rw [HC1.out.2])⟩
  . have tc : ((c : Int) != 0) = true := by simp; omega
    rcases Nat.eq_zero_or_pos a with rfl | ha
    . have HC1 : Hid (lat = 1 /\ st = c) := by have h1 := HL.out; have h2 := HT.out; unfold latL at h1; unfold stL at h2; rw [if_pos ⟨by omega, .inl rfl⟩] at h1 h2; exact ⟨h1, h2⟩
      go_wp2
      go_end0
      exact ⟨rfl, HFI.out _ _ (by rw [HC1.out.1]; rfl) (by rw [HC1.out.2])⟩
    . have ta : ((a : Int) == 0) = false := by simp; omega
      have ta2 : ((a : Int) != 0) = true := by simp; omega
      obtain ⟨m, hm⟩ : ∃ m, m = a % 3 + 1 := ⟨_, rfl⟩
      have HM := hideF hm
      clear hm
      by_cases hn : c = m
      . have HC1 : Hid (lat = 1 /\ st = c) := by have h1 := HL.out; have h2 := HT.out; have := HM.out; unfold latL at h1; unfold stL at h2; rw [if_pos ⟨by omega, .inr (by omega)⟩] at h1 h2; exact ⟨h1, h2⟩
        subst hn
        go_wp2_with fail
        refine (next_at a c HM.out _ (by omega)).mono ?_
        rintro e w5 ⟨rfl, rfl⟩
        go_wp2
        go_end0
        exact ⟨rfl, HFI.out _ _ (by rw [HC1.out.1]; rfl) (by rw [HC1.out.2])⟩
      . have HC1 : Hid (lat = 0 /\ st = a) := by have h1 := HL.out; have h2 := HT.out; have := HM.out; unfold latL at h1; unfold stL at h2; rw [if_neg (by omega)] at h1 h2; exact ⟨h1, h2⟩
        have tn : ((c : Int) == (m : Int)) = false := by simp; omega
        go_wp2_with fail
        refine (next_at a m HM.out _ (by omega)).mono ?_
        rintro e w5 ⟨rfl, rfl⟩
        go_wp2
        go_end0
        exact ⟨rfl, HFI.out _ _ (by rw [HC1.out.1]; rfl) (by rw [HC1.out.2])⟩
def readyW (f : Nat -> ByteArray) (sec o st q : Nat) : List (Int × Int × Int × ByteArray) := ((List.range q).filter fun i => Pl.byt (f (o * sec + i)) 63 == st).map fun i => (0, ((o * sec + i : Nat) : Int), 0, secB 0 ⟨#[]⟩)
theorem readyW_succ (f : Nat -> ByteArray) (sec o st q : Nat) : readyW f sec o st (q + 1) = readyW f sec o st q ++ (if Pl.byt (f (o * sec + q)) 63 = st then [(0, ((o * sec + q : Nat) : Int), 0, secB 0 ⟨#[]⟩)] else []) := by
  unfold readyW
  rw [List.range_succ, List.filter_append, List.map_append]
  congr 1
  by_cases h : Pl.byt (f (o * sec + q)) 63 = st <;> simp [h]
theorem readyW_len (f : Nat -> ByteArray) (sec o st q : Nat) : (readyW f sec o st q).length <= q := by
  unfold readyW
  rw [List.length_map]
  have := List.length_filter_le (fun i => Pl.byt (f (o * sec + i)) 63 == st) (List.range q)
  simpa using this
def rdS (f : Nat -> ByteArray) (sec lat st : Nat) : Nat -> Nat × Nat × List (Int × Int × Int × ByteArray)
  | 0 => (lat, st, [])
  | q + 1 => (((rdS f sec lat st q).1 + 1) % 2, (rdS f sec lat st q).2.1 % 3 + 1, (rdS f sec lat st q).2.2 ++ readyW f sec (((rdS f sec lat st q).1 + 1) % 2) ((rdS f sec lat st q).2.1 % 3 + 1) sec)
theorem rdS_bd (f : Nat -> ByteArray) (sec lat st : Nat) (h1 : lat <= 1) (h3 : st <= 3) : ∀ q, (rdS f sec lat st q).1 <= 1 /\ (rdS f sec lat st q).2.1 <= 3 /\ (rdS f sec lat st q).2.2.length <= q * sec := by
  intro q
  induction q with
  | zero => exact ⟨h1, h3, by simp [rdS]⟩
  | succ q ih =>
    have := readyW_len f sec (((rdS f sec lat st q).1 + 1) % 2) ((rdS f sec lat st q).2.1 % 3 + 1) sec
    refine ⟨?_, ?_, ?_⟩
    . show ((rdS f sec lat st q).1 + 1) % 2 <= 1; omega
    . show (rdS f sec lat st q).2.1 % 3 + 1 <= 3; omega
    . show ((rdS f sec lat st q).2.2 ++ readyW f sec _ _ sec).length <= _
      rw [List.length_append, Nat.succ_mul]; omega
def readyA (f : Nat -> ByteArray) (sec lat st : Nat) : List (Int × Int × Int × ByteArray) := if (rdS f sec lat st 2).2.2 = [] then [] else (rdS f sec lat st 2).2.2 ++ [(1, 0, 0, ⟨#[]⟩)]
set_option maxRecDepth 100000 in
set_option maxHeartbeats 4000000 in
theorem makeReady_gen (b g nd k sec lat st : Nat) (f : Nat -> ByteArray) (w : World) (hk : nd <= k) (hn : 2 * sec <= nd) (hn2 : nd <= 64) (hs1 : 1 <= sec) (hS : w.heap[b]? = some (.cells #[.int .i64 (sec : Nat), .int .i64 (lat : Nat), .int .u8 (st : Nat)] 155 (0, 0))) (hlat : lat <= 1) (hst : st <= 3) (hg : g < w.heap.size)
    (hF : SecIn w g nd f) (hz : ∀ j, j < nd -> (f j).size = 64) :
    Calls Tryz.prog 96 #[.pointer (some ⟨b, 0, none⟩), .slice (some ⟨g, 0, none⟩) nd k] w fun e w' => ∃ v, e = .returned v /\ w'.ownsRow w.heap.size 77 4 v (readyA f sec lat st).length ((readyA f sec lat st).flatMap encA) /\ Below w.heap.size w w' := by
  obtain ⟨i0, hi, hz0, hz1, hz2⟩ := info_parts Tryz.infoEA
  have hbl := lt_of_block hS
  have HF := hideF hF
  have HZ := hideF hz
  have HS := hideF hS
  have HBD := hideF (rdS_bd f sec lat st hlat hst)
  obtain ⟨b0, b1, b2, bf⟩ := cells3f hS
  clear hF hz hS
  go_enter Tryz.func96, Tryz.ntmps96
  go_wp2_with fail
  go_quiet (fail)
  go_wp2_with fail
  go_loopw [18, 6, 7, 5] (fun i wh stv ac wr => ∃ (q : Nat), q <= 2 /\ i = .int .i64 (q : Nat) /\ wh = .int .i64 ((rdS f sec lat st q).1 : Nat) /\ stv = .int .u8 ((rdS f sec lat st q).2.1 : Nat) /\ wr.ownsRow w.heap.size 77 4 ac (rdS f sec lat st q).2.2.length ((rdS f sec lat st q).2.2.flatMap encA) /\ Below w.heap.size w wr) (fun i _ _ _ _ => 2 - (intOf i).toNat)
  case atStart => exact ⟨0, by omega, rfl, rfl, rfl, World.ownsRow_nil _ _ _ _, below_drewN (Below.refl _ _) _⟩
  case round =>
    clear b0 b1 b2 bf
    obtain ⟨q, hq, rfl, rfl, rfl, hown, hb⟩ := hrel
    obtain ⟨ho, hs', hll⟩ := HBD.out q
    have hsn : rdS f sec lat st (q + 1) = (((rdS f sec lat st q).1 + 1) % 2, (rdS f sec lat st q).2.1 % 3 + 1, (rdS f sec lat st q).2.2 ++ readyW f sec (((rdS f sec lat st q).1 + 1) % 2) ((rdS f sec lat st q).2.1 % 3 + 1) sec) := rfl
    obtain ⟨o, hoe⟩ : ∃ o, o = (rdS f sec lat st q).1 := ⟨_, rfl⟩
    obtain ⟨s', hse⟩ : ∃ s', s' = (rdS f sec lat st q).2.1 := ⟨_, rfl⟩
    obtain ⟨l, hle⟩ : ∃ l, l = (rdS f sec lat st q).2.2 := ⟨_, rfl⟩
    rw [<- hoe] at ho hsn ⊢
    rw [<- hse] at hs' hsn ⊢
    rw [<- hle] at hll hown hsn
    have HLE := hideF hle
    clear hoe hse hle
    have hsz := hb.size
    have HO := hideF hown
    have HB := hideF hb
    obtain ⟨av, cv, rfl, _⟩ := own_view hown
    have hst2 := (hb.block b hbl).trans HS.out
    obtain ⟨x0, x1, x2, xf⟩ := cells3f hst2
    have HS2 := hideF hst2
    have HSN := hideF hsn
    clear hown hb hst2 hsn
    have hll2 : l.length <= 200 := by
      have : q * sec <= 2 * sec := Nat.mul_le_mul_right _ hq
      omega
    by_cases hq2 : q < 2
    . have hq2' : (q : Int) < 2 := by omega
      obtain ⟨o', ho'⟩ : ∃ o', o' = (o + 1) % 2 := ⟨_, rfl⟩
      obtain ⟨t', ht'⟩ : ∃ t', t' = s' % 3 + 1 := ⟨_, rfl⟩
      have hsn := HSN.out
      rw [<- ho', <- ht'] at hsn
      have HSN2 := hideF hsn
      have ho1 : o' <= 1 := by omega
      have ht3 : t' <= 3 := by omega
      have hos : o' * sec <= sec := by rcases (show o' = 0 ∨ o' = 1 by omega) with h | h <;> rw [h] <;> omega
      have HOO := hideF ho'
      have HTT := hideF ht'
      clear ho' ht' hsn HSN HLE
      go_wp2_with fail
      refine (other_at o o' HOO.out _ (by omega)).mono ?_
      rintro e w1 ⟨rfl, rfl⟩
      go_wp2_with fail
      refine (next_at s' t' HTT.out _ (by omega)).mono ?_
      rintro e w2 ⟨rfl, rfl⟩
      clear HOO HTT
      go_wp2_with fail
      refine (copyOn_gen b g nd k sec o' _ hk hn (by omega) hs1 ho1 x0).mono ?_
      rintro e w3 ⟨rfl, n3, hw3⟩
      obtain ⟨p, hp⟩ : ∃ p, p = o' * sec := ⟨_, rfl⟩
      rw [<- hp] at hos ⊢
      have HO3 : Hid (w3.ownsRow w.heap.size 77 4 (.slice av l.length cv) l.length (l.flatMap encA)) := by rw [hw3]; exact own_same HO.out (fun g _ => by simp)
      have HB3 : Hid (Below w.heap.size w w3) := by rw [hw3]; exact below_drewN HB.out _
      have hs3 := HB3.out.size
      have HS3 : Hid (w3.heap[b]? = some (.cells #[.int .i64 (sec : Nat), .int .i64 (lat : Nat), .int .u8 (st : Nat)] 155 (0, 0))) := by show _ = _; rw [hw3]; simpa using HS2.out
      have hb3 : b < w3.heap.size := lt_of_block HS3.out
      have HPE := hideF hp
      clear hw3 x0 x1 x2 xf HO HB HS2 hp
      go_wp2_with fail
      go_loopw [29, 5] (fun i ac wr => ∃ n : Nat, n <= sec /\ i = .int .i64 (n : Nat) /\ wr.ownsRow w.heap.size 77 4 ac (l ++ readyW f sec o' t' n).length ((l ++ readyW f sec o' t' n).flatMap encA) /\ Below w.heap.size w wr) (fun i _ _ => sec - (intOf i).toNat)
      case atStart => exact ⟨0, Nat.zero_le _, rfl, by show w3.ownsRow _ _ _ _ (l ++ []).length ((l ++ []).flatMap encA); rw [List.append_nil]; exact HO3.out, HB3.out⟩
      case round =>
        obtain ⟨n, hnn, rfl, hown', hb'⟩ := hrel
        have hrl := readyW_len f sec o' t' n
        have hsuc := readyW_succ f sec o' t' n
        obtain ⟨l', hl'⟩ : ∃ l', l' = l ++ readyW f sec o' t' n := ⟨_, rfl⟩
        have hll' : l'.length <= 400 := by rw [hl', List.length_append]; omega
        rw [<- hl'] at hown'
        have HO' := hideF hown'
        have HB' := hideF hb'
        have hsz' := hb'.size
        have HL' := hideF hl'
        have HSU := hideF hsuc
        obtain ⟨a', c', rfl, _⟩ := own_view hown'
        clear hown' hb' hrl hsuc hl'
        by_cases hlt : n < sec
        . have hcs : wr.cell? ⟨g, p + n, none⟩ = some (.string (f (p + n))) := ((bcell HB'.out).1 g _ hg).trans (HF.out (p + n) (by omega))
          have hfs := HZ.out (p + n) (by omega)
          obtain ⟨s, hse⟩ : ∃ s, s = f (p + n) := ⟨_, rfl⟩
          rw [<- hse] at hcs hfs
          have HSE := hideF hse
          have HSS := hideF hfs
          clear hse hfs
          go_wp2_with fail
          refine (endOf_at s _ HSS.out).mono ?_
          rintro e w4 ⟨rfl, rfl⟩
          by_cases hte : Pl.byt s 63 = t'
          . have hte' : ((Pl.byt s 63 : Int) == (t' : Int)) = true := by simp; omega
            have HTE := hideF hte
            clear hte
            go_wp2_with fail
            refine (secWrite_any b sec o' n 0 _ _ ⟨#[]⟩ _ ((HB'.out.block b hbl).trans HS.out) (by omega) (by omega) (by omega) (by omega)).mono ?_
            rintro e w5 ⟨rfl, hb5⟩
            have HO5 := hideF (ownsRow_below HO'.out hb5)
            have HB5 := hideF (bel_then HB'.out hb5)
            have hs5 := HB5.out.size
            rw [<- HPE.out]
            clear hb5 hcs
            go_wp2_with (at_builtin; refine wpList_append_own _ rfl (.tmp 38) (.tmp 43) 31 rfl w.heap.size 77 i0 _ 4 40 Tryz.underlying31 hi hz0 hz1 hz2 rfl (by decide) (.slice a' l'.length c') l'.length _ rfl (HO5.out.alloc _) ⟨w5.heap.size, 0, none⟩ 1 1 (encA (0, ((p + n : Nat) : Int), 0, secB 0 ⟨#[]⟩)) rfl rfl (cell_four_new _ _ _ _ _ _) (by have := encA_one [(0, ((p + n : Nat) : Int), 0, secB 0 ⟨#[]⟩)]; simpa using this) (by unfold maxLen; omega) (by omega) (by simp; omega) ?_; intro v' w6 hown6 hgrow6 _; obtain ⟨a6, k6, rfl, _⟩ := own_view hown6)
            go_roundw
            case rel =>
              refine ⟨n + 1, by omega, by go_num, ?_, ?_⟩
              . rw [HSU.out, <- HPE.out, <- HSE.out, if_pos HTE.out, <- List.append_assoc, <- HL'.out, List.flatMap_append, List.length_append]
                simpa using hown6
              . exact (bel_alloc HB5.out _).trans ⟨hgrow6.os, hgrow6.tape, hgrow6.output, hgrow6.size, fun k hk => hgrow6.block k (by simp; omega) (fun e => by have := (HO5.out.lt k e.symm).1; omega)⟩
            case measure => simp [intOf]; omega
          . have hte' : ((Pl.byt s 63 : Int) == (t' : Int)) = false := by simp; omega
            have HTE := hideF hte
            clear hte
            go_wp2_with fail
            go_roundw
            case rel =>
              refine ⟨n + 1, by omega, by go_num, ?_, HB'.out⟩
              rw [HSU.out, <- HPE.out, <- HSE.out, if_neg HTE.out, List.append_nil, <- HL'.out]
              exact HO'.out
            case measure => simp [intOf]; omega
        . obtain rfl : n = sec := by omega
          go_wp2_with fail
          go_roundw
          case rel =>
            refine ⟨q + 1, by omega, by go_num, ?_, ?_, ?_, HB'.out⟩
            . rw [HSN2.out]
            . rw [HSN2.out]
            . rw [HSN2.out]; simp only; rw [<- HL'.out]; exact HO'.out
          case measure => simp [intOf]; omega
    . have hq2' : decide ((q : Int) < 2) = false := by simp; omega
      obtain rfl : q = 2 := by omega
      have hre : readyA f sec lat st = if l = [] then [] else l ++ [(1, 0, 0, ⟨#[]⟩)] := by unfold readyA; rw [<- HLE.out]
      have HRE := hideF hre
      clear hre
      rcases Nat.eq_zero_or_pos l.length with hl0 | hl0
      . have hl0' : ((l.length : Int) == 0) = true := by simp [hl0]
        have HL0 := hideF hl0
        clear hl0
        go_wp2
        go_ret
        refine ⟨_, rfl, ?_, HB.out⟩
        rw [HRE.out, if_pos (List.eq_nil_of_length_eq_zero HL0.out)]
        exact World.ownsRow_nil _ _ _ _
      . have hl0' : ((l.length : Int) == 0) = false := by simp; intro e; simp [e] at hl0
        have HNE : Hid (¬ l = []) := fun e => by rw [e] at hl0; simp at hl0
        go_wp2_with (at_builtin; refine wpList_append_own _ rfl (.tmp 50) (.tmp 52) 31 rfl w.heap.size 77 i0 _ 4 40 Tryz.underlying31 hi hz0 hz1 hz2 rfl (by decide) (.slice av l.length cv) l.length _ rfl (HO.out.alloc _) ⟨wr.heap.size, 0, none⟩ 1 1 (encA (1, 0, 0, ⟨#[]⟩)) rfl rfl (cell_four_new _ _ _ _ _ _) (by have := encA_one [(1, 0, 0, ⟨#[]⟩)]; simpa using this) (by unfold maxLen; omega) (by omega) (by simp; omega) ?_; intro v' w6 hown6 hgrow6 _; obtain ⟨a6, k6, rfl, _⟩ := own_view hown6)
        go_ret
        refine ⟨_, rfl, ?_, ?_⟩
        . rw [HRE.out, if_neg HNE.out, List.flatMap_append, List.length_append]
          simpa using hown6
        . exact (bel_alloc HB.out _).trans ⟨hgrow6.os, hgrow6.tape, hgrow6.output, hgrow6.size, fun k hk => hgrow6.block k (by simp; omega) (fun e => by have := (HO.out.lt k e.symm).1; omega)⟩
end Go.Proofs.YtcpldcojckhapaaGreat

set_option maxRecDepth 100000
namespace Go.Proofs.YtcpldcojckhapaaGreat
open Go.RowKit
def latC (f : Nat -> ByteArray) (sec : Nat) : Nat := latL (stampC f 0 sec) (stampC f sec sec)
def stC (f : Nat -> ByteArray) (sec : Nat) : Nat := stL (stampC f 0 sec) (stampC f sec sec)
def dataC (z sec : Nat) (f : Nat -> ByteArray) : ByteArray := if stC f sec = 0 then zerosB z else (catC f (latC f sec * sec) sec).extract 0 z
theorem latC_le (f : Nat -> ByteArray) (sec : Nat) : latC f sec <= 1 := latL_le _ _
theorem stC_le (f : Nat -> ByteArray) (sec : Nat) : stC f sec <= 3 := stL_le (stampC_le _ _ _) (stampC_le _ _ _)
theorem dataC_size (z sec nd : Nat) (f : Nat -> ByteArray) (hz : z <= 62 * sec) (hn : 2 * sec <= nd) (hf : ∀ j, j < nd -> (f j).size = 64) : (dataC z sec f).size = z := by
  unfold dataC
  split
  . exact zerosB_size z
  . have hl := latC_le f sec
    have hls : latC f sec * sec <= sec := by rcases (show latC f sec = 0 ∨ latC f sec = 1 by omega) with h | h <;> rw [h] <;> omega
    rw [ByteArray.size_extract, catC_size f _ _ (fun i hi => hf _ (by omega))]; omega
set_option maxRecDepth 100000 in
set_option maxHeartbeats 2000000 in
theorem storeOpen_gen (z sec g nd k lat st : Nat) (f : Nat -> ByteArray) (w : World) (hz : z <= 186) (hsec : sec = max 1 ((z + 61) / 62)) (hk : nd <= k) (hn : 2 * sec <= nd) (hn2 : nd <= 64) (hg : g < w.heap.size) (hF : SecIn w g nd f) (hfz : ∀ j, j < nd -> (f j).size = 64)
    (hl : lat = latC f sec) (hst : st = stC f sec) :
    Calls Tryz.prog 62 #[.int .i64 (z : Nat), .slice (some ⟨g, 0, none⟩) nd k] w fun e w' => ∃ v, e = .returned (.tuple #[.pointer (some ⟨w.heap.size, 0, none⟩), .string (dataC z sec f), v]) /\
      w'.heap[w.heap.size]? = some (.cells #[.int .i64 (sec : Nat), .int .i64 (lat : Nat), .int .u8 (st : Nat)] 155 (0, 0)) /\ w'.ownsRow w.heap.size 77 4 v (readyA f sec lat st).length ((readyA f sec lat st).flatMap encA) /\ Below w.heap.size w w' := by
  have hlb : lat <= 1 := by rw [hl]; exact latC_le _ _
  have hsb : st <= 3 := by rw [hst]; exact stC_le _ _
  have hs1 : 1 <= sec := by omega
  have hs4 : sec <= 4 := by omega
  have hz62 : z <= 62 * sec := by omega
  have HL := hideF hl
  have HT := hideF hst
  have HSEC := hideF hsec
  have HFF := hideF hF
  have HFZ := hideF hfz
  clear hl hst hsec hF hfz
  go_enter Tryz.func62, Tryz.ntmps62
  go_wp2_with fail
  refine (sectorsOf_at z sec HSEC.out _ (by omega)).mono ?_
  rintro e w1 ⟨rfl, rfl⟩
  obtain ⟨W, hW⟩ : ∃ W, W = w1.alloc (.cells #[.int .i64 (sec : Nat), .int .i64 0, .int .u8 0] 155) := ⟨_, rfl⟩
  have hWs : W.heap.size = w1.heap.size + 1 := by rw [hW]; simp
  have hWb : Below w1.heap.size w1 W := by rw [hW]; exact bel_alloc (Below.refl _ _) _
  have hWg : W.heap[w1.heap.size]? = some (.cells #[.int .i64 (sec : Nat), .int .i64 0, .int .u8 0] 155 (0, 0)) := by rw [hW]; exact heap_alloc_new w1 _
  go_wp2_with fail
  rw [<- hW]
  clear hW
  refine (findLatest_gen w1.heap.size g nd k sec _ _ lat st f W hk hn hn2 hs1 hWg (HFF.out.bel hg hWb) HFZ.out rfl rfl HL.out HT.out).mono ?_
  rintro e w2 ⟨rfl, hg2, hc2⟩
  have hs2 := hc2.size
  have hb2 : Below w1.heap.size w1 w2 := hWb.trans ⟨hc2.os, hc2.tape, hc2.output, hc2.size, fun k hk => hc2.block k (by omega) (by omega)⟩
  clear hWb hWg hc2
  go_wp2_with fail
  refine (repeat_any ⟨#[0]⟩ z w2 (by omega) (by show 1 * z <= _; omega)).mono ?_
  rintro e w3 ⟨rfl, hb3⟩
  have hs3 := hb3.size
  have hg3 := (hb3.block w1.heap.size (by omega)).trans hg2
  have hB3 := bel_then hb2 hb3
  have HB3 := hideF hB3
  have HG3 := hideF hg3
  have F3 := hideF (HFF.out.bel hg hB3)
  obtain ⟨c0, c1, c2, cf⟩ := cells3f hg3
  clear hb3 hb2 hg2 hB3 hg3
  rcases Nat.eq_zero_or_pos st with hst0 | hst0
  . have HDL : Hid (dataC z sec f = zerosB z) := by show _ = _; unfold dataC; rw [if_pos (by rw [<- HT.out]; exact hst0)]
    have hst0' : ((st : Int) != 0) = false := by simp; omega
    clear hst0
    go_wp2_with fail
    refine (makeReady_gen w1.heap.size g nd k sec lat st f w3 hk hn hn2 hs1 HG3.out hlb hsb (by omega) F3.out HFZ.out).mono ?_
    rintro e w4 ⟨v4, rfl, ho4, hb4⟩
    have HO4 := hideF (own_base (B := w1.heap.size) ho4 (by omega))
    have HB4 := hideF (bel_then HB3.out hb4)
    have HG4 := hideF ((hb4.block w1.heap.size (by omega)).trans HG3.out)
    clear ho4 hb4
    go_wp2
    refine bodyPost_ret (v := .tuple #[.pointer (some ⟨w1.heap.size, 0, none⟩), .string (zerosB z), v4]) (by simp [results, Tryz.results62, go_sem, zerosB]) rfl ⟨v4, by rw [HDL.out], HG4.out, HO4.out, HB4.out⟩
  . have hst0' : ((st : Int) != 0) = true := by simp; omega
    have hls : lat * sec <= sec := by rcases (show lat = 0 ∨ lat = 1 by omega) with h | h <;> rw [h] <;> omega
    obtain ⟨t, ht⟩ : ∃ t : ByteArray, t = catC f (lat * sec) sec := ⟨_, rfl⟩
    have hts : t.size = 62 * sec := by rw [ht]; exact catC_size f _ _ (fun i hi => HFZ.out _ (by omega))
    have hzt : (z : Int) <= (t.size : Int) := by omega
    have HDL : Hid (dataC z sec f = t.extract 0 z) := by show _ = _; unfold dataC; rw [if_neg (by rw [<- HT.out]; omega), <- HL.out, ht]
    have HTT := hideF ht
    clear hst0 ht hts
    go_wp2_with fail
    refine (copyOn_gen w1.heap.size g nd k sec lat _ hk hn (by omega) hs1 hlb c0).mono ?_
    rintro e w4 ⟨rfl, n4, hw4⟩
    have hb4 : Below w3.heap.size w3 w4 := by rw [hw4]; exact below_drewN (Below.refl _ _) _
    have hs4 := hb4.size
    have HB4 := hideF hb4
    have F4 := hideF (F3.out.bel (by omega) hb4)
    clear hw4 hb4 c0 c1 c2 cf
    go_wp2_with fail
    refine (contents_gen g (lat * sec) _ sec f w4 hs1 (by omega) (fun i hi => F4.out _ (by omega)) (by omega) (fun i hi => HFZ.out _ (by omega))).mono ?_
    rintro e w5 ⟨rfl, hb5⟩
    rw [<- HTT.out]
    have HB5 := hideF (bel_then HB4.out hb5)
    have hs5 := HB5.out.size
    clear hb5
    go_wp2_with fail
    refine (makeReady_gen w1.heap.size g nd k sec lat st f w5 hk hn hn2 hs1 ((HB5.out.block _ (by omega)).trans HG3.out) hlb hsb (by omega) (F3.out.bel (by omega) HB5.out) HFZ.out).mono ?_
    rintro e w6 ⟨v6, rfl, ho6, hb6⟩
    have HO6 := hideF (own_base (B := w1.heap.size) ho6 (by omega))
    have HB6 := hideF (bel_then (bel_then HB3.out HB5.out) hb6)
    have HG6 := hideF ((hb6.block w1.heap.size (by omega)).trans ((HB5.out.block _ (by omega)).trans HG3.out))
    clear ho6 hb6
    go_wp2
    refine bodyPost_ret (v := .tuple #[.pointer (some ⟨w1.heap.size, 0, none⟩), .string (t.extract 0 z), v6]) (by simp [results, Tryz.results62, go_sem]) rfl ⟨v6, by rw [HDL.out], HG6.out, HO6.out, HB6.out⟩
end Go.Proofs.YtcpldcojckhapaaGreat

set_option maxRecDepth 100000
namespace Go.Proofs.YtcpldcojckhapaaGreat
open Go.RowKit
theorem DevIn.below {w w' : World} {d L S : Nat} {E : Nat -> Nat} {wv : Value} {D : Dev} (h : DevIn w d L S E wv D) (hb : Below w.heap.size w w') : DevIn w' d L S E wv D :=
  ⟨(hb.block d (lt_of_block h.dev)).trans h.dev, h.lines.below hb h.lines.lt, fun i hi => (h.ent i hi).below hb (h.ent i hi).lt, h.inj, (hb.block S (lt_of_block h.store)).trans h.store, ownsRow_below h.wait hb, h.lo⟩
end Go.Proofs.YtcpldcojckhapaaGreat

set_option maxRecDepth 100000
namespace Go.Proofs.YtcpldcojckhapaaGreat
open Go.RowKit
end Go.Proofs.YtcpldcojckhapaaGreat
