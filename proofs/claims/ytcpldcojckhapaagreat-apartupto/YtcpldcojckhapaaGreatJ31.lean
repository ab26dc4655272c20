/-
  
-/
import Derived.Test.YtcpldcojckhapaaGreatJ30
import Derived.Test.YtcpldcojckhapaaGreatJ28
import Derived.Test.YtcpldcojckhapaaGreatJ22
import Derived.Test.YtcpldcojckhapaaGreatJ29
import Derived.Test.YtcpldcojckhapaaGreatJ25
set_option maxRecDepth 100000
namespace Go.Proofs.YtcpldcojckhapaaGreat
open Go.RowKit
theorem enter59 (x y : Value) (w : World) : (callFunc 58 #[x, y]).run Tryz.prog w = .ok (.enter 58 #[x, y]) w := by kernel_rfl
theorem enter60 (x : Value) (w : World) : (callFunc 59 #[x]).run Tryz.prog w = .ok (.enter 59 #[x]) w := by kernel_rfl
theorem DevIn.saved {w w' : World} {d L S : Nat} {E : Nat -> Nat} {wv : Value} {D : Dev} {lat st : Nat} (h : DevIn w d L S E wv D) (hc : Chg1 S w w') (hS : w'.heap[S]? = some (.cells #[.int .i64 (D.sec : Nat), .int .i64 (lat : Nat), .int .u8 (st : Nat)] 155 (0, 0))) : DevIn w' d L S E wv { D with lat := lat, stamp := st } := by
  obtain ⟨cl, hcl⟩ := h.lines.block
  refine ⟨(hc.block d (lt_of_block h.dev) (ne_of_types h.dev h.store (by decide))).trans h.dev, h.lines.same (hc.block L (lt_of_block hcl) (ne_of_types hcl h.store (by decide))), fun i hi => ?_, h.inj, hS, own_same h.wait (fun g hg => ?_), h.lo⟩
  . obtain ⟨ce, hce⟩ := (h.ent i hi).block
    exact (h.ent i hi).same (hc.block (E i) (lt_of_block hce) (ne_of_types hce h.store (by decide)))
  . obtain ⟨cg, hcg⟩ := own_block h.wait g hg
    exact hc.block g (lt_of_block hcg) (ne_of_types hcg h.store (by decide))
theorem saveA_len (sec lat st : Nat) (d : ByteArray) : (saveA sec lat st d).length = sec + 1 := by simp [saveA]
end Go.Proofs.YtcpldcojckhapaaGreat

set_option maxRecDepth 100000
namespace Go.Proofs.YtcpldcojckhapaaGreat
open Go.RowKit
def heardL (all : ByteArray) (t : Nat) (k : Int) : Ln := if k = 0 then ⟨0, all.extract t all.size, false⟩ else ⟨0, ⟨#[]⟩, true⟩
theorem SplIs.le {s : ByteArray} {acc : List Value} {t : Nat} {k : Int} (h : SplIs s acc t k) : t <= s.size := by
  have := (Pl.spl_end s (s.size + 1) 0 (Nat.zero_le _)).2
  have e : Pl.spl s (s.size + 1) 0 = (acc, t) := h.1
  rw [e] at this
  exact this
theorem SplIs.code {s : ByteArray} {acc : List Value} {t : Nat} {k : Int} (h : SplIs s acc t k) : k = 0 ∨ k = 4 := by
  have := h.2
  by_cases hb : Pl.brk (s.extract t s.size) = true
  . rw [if_pos hb] at this; exact .inr this
  . rw [if_neg hb] at this; exact .inl this
theorem line_set {w : World} {L n i : Nat} {ln : Nat -> Ln} {x : Ln} {v : Value} {j : Nat} (hG : Grid w L 116 n 3 (fun a b => lnc (ln a) b)) (hi : i < n) (hj : j < 3) (hv : lnc x j = v) (hx : ∀ b, b < 3 -> b ≠ j -> lnc x b = lnc (ln i) b) :
    Grid (w.setCell ⟨L, i * 3 + j, none⟩ v) L 116 n 3 (fun a b => lnc (if a = i then x else ln a) b) := by
  refine (hG.set hi hj v).congr fun a b _ hb => ?_
  by_cases e : a = i /\ b = j
  . rw [if_pos e, if_pos e.1, e.2, hv]
  . rw [if_neg e]
    by_cases e1 : a = i
    . rw [if_pos e1, hx b hb (fun h => e ⟨e1, h⟩), e1]
    . rw [if_neg e1]
set_option maxRecDepth 100000 in
set_option maxHeartbeats 1000000 in
theorem hear_stream (L i n : Nat) (ln : Nat -> Ln) (s : ByteArray) (w : World) (hG : Grid w L 116 n 3 (fun a j => lnc (ln a) j)) (hi : i < n) (hk : (ln i).kind = 0) (hbr : (ln i).broken = false) (hs : ((ln i).bytes ++ s).size <= 4194304) :
    Calls Tryz.prog 56 #[.pointer (some ⟨L, i * 3, none⟩), .string s] w fun e w' => ∃ v m acc t k, e = .returned v /\ w'.ownsRow w.heap.size 94 3 v m acc /\ SplIs ((ln i).bytes ++ s) acc t k /\ m <= 524288 /\
      Grid w' L 116 n 3 (fun a j => lnc (if a = i then heardL ((ln i).bytes ++ s) t k else ln a) j) /\ Chg1 L w w' := by
  have c0 : w.cell? ⟨L, i * 3, none⟩ = some (.int .i64 0) := by have := hG.cell hi (j := 0) (by omega); rw [Nat.add_zero] at this; rw [this]; simp [lnc, hk]
  have c1 : w.cell? ⟨L, i * 3 + 1, none⟩ = some (.string (ln i).bytes) := by have := hG.cell hi (j := 1) (by omega); rw [this]; simp [lnc]
  have c2 : w.cell? ⟨L, i * 3 + 2, none⟩ = some (.bool false) := by have := hG.cell hi (j := 2) (by omega); rw [this]; simp [lnc, hbr]
  have HG := hideF hG
  have hLs := hG.lt
  obtain ⟨A, hA⟩ : ∃ A, A = (ln i).bytes := ⟨_, rfl⟩
  have HA := hideF hA
  rw [<- hA] at hs c1 ⊢
  clear hA hG
  have hz : A.size + s.size <= 4194304 := by rw [ByteArray.size_append] at hs; exact hs
  have hlim : ¬ 9223372036854775807 < A.size + s.size := by omega
  have HK := hideF hk
  have HBR := hideF hbr
  clear hk hbr
  go_enter Tryz.func56, Tryz.ntmps56
  go_wp2_with fail
  refine (split_core (A ++ s) _ hs).mono ?_
  rintro e w1 ⟨v, m, acc, t, k, rfl, hown, hspl, hm, hb1⟩
  have ht := hspl.le
  have HS := hideF hspl
  have HO := hideF hown
  have HB := hideF hb1
  have hc1 := bcell hb1
  have hk := hspl.code
  clear hspl hown hb1 c0 c1 c2
  obtain ⟨S, hS⟩ : ∃ S, S = A ++ s := ⟨_, rfl⟩
  rw [<- hS] at ht HS hs ⊢
  have HSE := hideF hS
  clear hS
  go_wp2_with fail
  refine (clone_any _ _ (by simp; omega)).mono ?_
  rintro e w2 ⟨rfl, hb2⟩
  have HG2 := hideF (HG.out.below (bel_then HB.out hb2) hLs)
  have HB2 := hideF (bel_then HB.out hb2)
  have HO2 := hideF (ownsRow_below HO.out hb2)
  have hf2 := HG2.out.frozen (i * 3 + 1)
  have hf3 := HG2.out.frozen (i * 3 + 2)
  have d1 := HG2.out.cell hi (j := 1) (by omega)
  have d2 := HG2.out.cell hi (j := 2) (by omega)
  clear HG HO HB hb2 hc1
  rcases hk with rfl | rfl
  . go_wp2_with fail
    go_ret
    rw [<- HSE.out]
    refine ⟨_, m, acc, t, 0, rfl, own_same HO2.out (fun g hg => heap_setCell_other _ _ _ _ (by have := (HO2.out.lt g hg).1; simp; omega)), HS.out, hm, ?_, (Chg1.of_below L HB2.out).setCell _ _⟩
    refine line_set HG2.out hi (by omega) rfl fun b hb hne => ?_
    rcases (show b = 0 ∨ b = 2 by omega) with rfl | rfl
    . simp [lnc, heardL, HK.out]
    . simp [lnc, heardL, HBR.out]
  . go_wp2_with fail
    go_ret
    rw [<- HSE.out]
    refine ⟨_, m, acc, t, 4, rfl, own_same HO2.out (fun g hg => ?_), HS.out, hm, ?_, (((Chg1.of_below L HB2.out).setCell _ _).setCell _ _).setCell _ _⟩
    . have h := (HO2.out.lt g hg).1
      rw [heap_setCell_other _ _ _ _ (by simp; omega), heap_setCell_other _ _ _ _ (by simp; omega), heap_setCell_other _ _ _ _ (by simp; omega)]
    . have g1 := line_set (x := ⟨0, S.extract t S.size, false⟩) (v := .string (S.extract t S.size)) HG2.out hi (j := 1) (by omega) rfl (fun b hb hne => by
        rcases (show b = 0 ∨ b = 2 by omega) with rfl | rfl
        . simp [lnc, HK.out]
        . simp [lnc, HBR.out])
      have g2 := line_set (x := ⟨0, ⟨#[]⟩, false⟩) (v := .string ⟨#[]⟩) g1 hi (j := 1) (by omega) rfl (fun b hb hne => by
        rcases (show b = 0 ∨ b = 2 by omega) with rfl | rfl
        . simp [lnc]
        . simp [lnc])
      have g3 := line_set (x := ⟨0, ⟨#[]⟩, true⟩) (v := .bool true) g2 hi (j := 2) (by omega) rfl (fun b hb hne => by
        rcases (show b = 0 ∨ b = 1 by omega) with rfl | rfl
        . simp [lnc]
        . simp [lnc])
      refine g3.congr fun a b _ _ => ?_
      by_cases e : a = i
      . simp [e, heardL]
      . simp [e]
end Go.Proofs.YtcpldcojckhapaaGreat

set_option maxRecDepth 100000
namespace Go.Proofs.YtcpldcojckhapaaGreat
namespace Pl
theorem byt_list (s : ByteArray) (k : Nat) : byt s k = (s.data.toList.getD k 0).toNat := by
  unfold byt
  by_cases h : k < s.size
  . rw [dif_pos h, List.getD_eq_getElem?_getD]
    have h2 : k < s.data.toList.length := by rw [Array.length_toList]; exact h
    rw [List.getElem?_eq_getElem h2]
    rfl
  . rw [dif_neg h, List.getD_eq_getElem?_getD, List.getElem?_eq_none (by rw [Array.length_toList]; exact Nat.le_of_not_lt h)]
    rfl
theorem byt_drop (s : ByteArray) (t k : Nat) (l : List UInt8) (h : s.data.toList.drop t = l) : byt s (t + k) = (l.getD k 0).toNat := by
  rw [byt_list, <- h, List.getD_eq_getElem?_getD, List.getD_eq_getElem?_getD, List.getElem?_drop]
theorem size_list (s : ByteArray) : s.size = s.data.toList.length := by rw [Array.length_toList]; rfl
theorem streamB_list (m u : Nat) (b : ByteArray) : (streamB m u b).data.toList = [UInt8.ofNat (m / 256), UInt8.ofNat (m % 256), 0, 0, UInt8.ofNat ((b.size + 1) / 256), UInt8.ofNat ((b.size + 1) % 256), UInt8.ofNat u] ++ b.data.toList := by
  simp [streamB, twoB]
theorem streamB_size (m u : Nat) (b : ByteArray) : (streamB m u b).size = 7 + b.size := by
  rw [size_list, streamB_list, List.length_append, <- size_list]; rfl
def May (x : Nat × Nat × ByteArray) : Prop := x.1 < 65536 /\ x.2.1 < 256 /\ 1 <= x.2.2.size /\ x.2.2.size <= 253
def frC (x : Nat × Nat × ByteArray) : List Value := [.int .i64 (x.1 : Nat), .int .i64 (x.2.1 : Nat), .string x.2.2]
def encL (x : Nat × Nat × ByteArray) : List UInt8 := (streamB x.1 x.2.1 x.2.2).data.toList
theorem at_one (s : ByteArray) (t : Nat) (x : Nat × Nat × ByteArray) (hx : May x) (rest : List UInt8) (h : s.data.toList.drop t = encL x ++ rest) :
    wholeAt s t = 7 + x.2.2.size /\ frAt s t (7 + x.2.2.size) = frC x := by
  obtain ⟨m, u, b⟩ := x
  obtain ⟨h1, h2, h3, h4⟩ := hx
  simp only at h1 h2 h3 h4
  unfold encL at h
  rw [streamB_list] at h
  have hlen : s.size - t = 7 + b.size + rest.length := by
    have := congrArg List.length h
    rw [List.length_drop, List.length_append, List.length_append, <- size_list, <- size_list] at this
    rw [this]; rfl
  have hby : ∀ k, byt s (t + k) = (([UInt8.ofNat (m / 256), UInt8.ofNat (m % 256), 0, 0, UInt8.ofNat ((b.size + 1) / 256), UInt8.ofNat ((b.size + 1) % 256), UInt8.ofNat u] ++ b.data.toList ++ rest).getD k 0).toNat := fun k => byt_drop s t k _ h
  have b0 : byt s (t + 0) = m / 256 := by rw [hby]; simp; omega
  have b1 : byt s (t + 1) = m % 256 := by rw [hby]; simp
  have b2 : byt s (t + 2) = 0 := by rw [hby]; simp
  have b3 : byt s (t + 3) = 0 := by rw [hby]; simp
  have b4 : byt s (t + 4) = 0 := by rw [hby]; simp; omega
  have b5 : byt s (t + 5) = b.size + 1 := by rw [hby]; simp; omega
  have b6 : byt s (t + 6) = u := by rw [hby]; simp; omega
  have hbr : brk (s.extract t s.size) = false := brkAt_false s t b2 b3 b4 (fun _ => by omega)
  refine ⟨?_, ?_⟩
  . rw [wholeAt_some s t (by omega) hbr (by omega), b5]; show _ = 7 + b.size; omega
  . unfold frAt frC
    simp only
    have hx : s.extract (t + 7) (t + (7 + b.size)) = b := by
      apply ByteArray.ext
      apply Array.ext'
      have e : (s.extract (t + 7) (t + (7 + b.size))).data.toList = (s.data.toList.drop (t + 7)).take (t + (7 + b.size) - (t + 7)) := Lib.extract_data _ _ _
      rw [e, <- List.drop_drop, h, show t + (7 + b.size) - (t + 7) = b.size by omega, size_list b]
      simp
    rw [hx, b6, show byt s t = m / 256 from b0, b1]
    rw [show 256 * (m / 256) + m % 256 = m by omega]
theorem spl_all (s : ByteArray) (rest : List UInt8) (fs : List (Nat × Nat × ByteArray)) : ∀ (f t : Nat), (∀ x ∈ fs, May x) -> fs.length < f -> s.data.toList.drop t = fs.flatMap encL ++ rest ->
    wholeAt s (t + (fs.flatMap encL).length) = 0 -> spl s f t = (fs.flatMap frC, t + (fs.flatMap encL).length) := by
  induction fs with
  | nil =>
    intro f t _ _ _ hw
    have e1 : List.flatMap encL ([] : List (Nat × Nat × ByteArray)) = [] := rfl
    have e2 : List.flatMap frC ([] : List (Nat × Nat × ByteArray)) = [] := rfl
    rw [e1, List.length_nil, Nat.add_zero] at hw
    rw [spl_stop s f t hw, e1, e2, List.length_nil, Nat.add_zero]
  | cons x fs ih =>
    intro f t hm hf hd hw
    obtain ⟨g, rfl⟩ : ∃ g, f = g + 1 := ⟨f - 1, by omega⟩
    have hl : (encL x).length = 7 + x.2.2.size := by unfold encL; rw [<- size_list, streamB_size]
    have hd' : s.data.toList.drop t = encL x ++ (fs.flatMap encL ++ rest) := by rw [hd]; simp
    obtain ⟨h1, h2⟩ := at_one s t x (hm x (by simp)) _ hd'
    have hd2 : s.data.toList.drop (t + (7 + x.2.2.size)) = fs.flatMap encL ++ rest := by
      rw [<- List.drop_drop, hd', <- hl, List.drop_left]
    have hw2 : t + ((x :: fs).flatMap encL).length = (t + (7 + x.2.2.size)) + (fs.flatMap encL).length := by rw [List.flatMap_cons, List.length_append, hl]; omega
    have hi := ih g (t + (7 + x.2.2.size)) (fun y hy => hm y (List.mem_cons_of_mem _ hy)) (by simpa using hf) hd2 (by rw [<- hw2]; exact hw)
    rw [spl_step s g t (by omega), h1, h2, hi, hw2, List.flatMap_cons]
theorem split_one (m u : Nat) (b : ByteArray) (hx : May (m, u, b)) : splF (streamB m u b) = (frC (m, u, b), 7 + b.size) /\ brk ((streamB m u b).extract (7 + b.size) (streamB m u b).size) = false := by
  have hz := streamB_size m u b
  have hw : wholeAt (streamB m u b) (7 + b.size) = 0 := wholeAt_none _ _ (.inl (by omega))
  refine ⟨?_, ?_⟩
  . have hl : (encL (m, u, b)).length = 7 + b.size := by unfold encL; rw [<- size_list, streamB_size]
    have h := spl_all (streamB m u b) [] [(m, u, b)] ((streamB m u b).size + 1) 0 (fun x h => by rw [List.mem_singleton.1 h]; exact hx) (by simp; omega) (by simp [encL]) (by
      have e : ([(m, u, b)].flatMap encL) = encL (m, u, b) := by simp
      rw [e, hl, Nat.zero_add]; exact hw)
    unfold splF
    rw [h]
    have e : ([(m, u, b)].flatMap encL) = encL (m, u, b) := by simp
    rw [e, hl, Nat.zero_add]
    simp
  . exact brkAt_false _ _ (byt_end _ _ (by omega)) (byt_end _ _ (by omega)) (byt_end _ _ (by omega)) (fun h => by omega)
end Pl
end Go.Proofs.YtcpldcojckhapaaGreat

set_option maxRecDepth 100000
namespace Go.Proofs.YtcpldcojckhapaaGreat
open Go.RowKit
def TakeIs (d L S : Nat) (E : Nat -> Nat) (wv : Value) (D D' : Dev) (i m : Nat) (b : ByteArray) (A : List (Int × Int × Int × ByteArray)) : Prop :=
  ∀ w : World, DevIn w d L S E wv D -> Calls Tryz.prog 57 #[.pointer (some ⟨d, 0, none⟩), .int .i64 (i : Nat), .agg #[.int .i64 (m : Nat), .int .i64 (D.unit : Nat), .string b]] w fun e w' => ∃ v wv', e = .returned v /\ w'.ownsRow w.heap.size 77 4 v A.length (A.flatMap encA) /\ (A = [] -> v = .slice none 0 0) /\ DevIn w' d L S E wv' D' /\ FtT D.base (devT d L S E) w w'
theorem within_yes (n a b : Int) (w : World) (h1 : a <= n) (h2 : n <= b) : Calls Tryz.prog 53 #[.int .i64 n, .int .i64 a, .int .i64 b] w fun e w' => e = .returned (.bool true) /\ w' = w := by
  have d1 : decide (a <= n) = true := by simp [h1]
  have d2 : decide (n <= b) = true := by simp [h2]
  go_enter Tryz.func53, Tryz.ntmps53
  go_wp2
  go_ret
  exact ⟨rfl, rfl⟩
theorem spl_one {m u : Nat} {b : ByteArray} (hx : Pl.May (m, u, b)) {acc : List Value} {t : Nat} {k : Int} (h : SplIs (streamB m u b) acc t k) : acc = Pl.frC (m, u, b) /\ t = (streamB m u b).size /\ k = 0 := by
  obtain ⟨h1, h2⟩ := h
  obtain ⟨e1, e2⟩ := Pl.split_one m u b hx
  rw [e1] at h1
  obtain ⟨rfl, rfl⟩ := Prod.mk.inj h1
  rw [e2] at h2
  exact ⟨rfl, (Pl.streamB_size m u b).symm, h2⟩
theorem DevIn.heard {w w' : World} {d L S : Nat} {E : Nat -> Nat} {wv : Value} {D : Dev} {g : Nat -> Ln} (h : DevIn w d L S E wv D) (hG : Grid w' L 116 D.nl 3 (fun a j => lnc (g a) j)) (hc : Chg1 L w w') : DevIn w' d L S E wv { D with ln := g } := by
  obtain ⟨cl, hcl⟩ := h.lines.block
  refine ⟨(hc.block d (lt_of_block h.dev) (ne_of_types h.dev hcl (by decide))).trans h.dev, hG, fun i hi => ?_, h.inj, (hc.block S (lt_of_block h.store) (ne_of_types h.store hcl (by decide))).trans h.store, own_same h.wait (fun g hg => ?_), h.lo⟩
  . obtain ⟨ce, hce⟩ := (h.ent i hi).block
    exact (h.ent i hi).same (hc.block (E i) (lt_of_block hce) (ne_of_types hce hcl (by decide)))
  . obtain ⟨cg, hcg⟩ := own_block h.wait g hg
    exact hc.block g (lt_of_block hcg) (ne_of_types hcg hcl (by decide))
theorem heard_none (s : ByteArray) : heardL s s.size 0 = ⟨0, ⟨#[]⟩, false⟩ := by
  have e : s.extract s.size s.size = ⟨#[]⟩ := by apply ByteArray.ext; simp
  unfold heardL
  rw [if_pos rfl, e]
theorem hear_one (d L S i m : Nat) (E : Nat -> Nat) (wv : Value) (D : Dev) (b : ByteArray) (w : World) (h : DevIn w d L S E wv D) (hi : i < D.nl) (hln : D.ln i = ⟨0, ⟨#[]⟩, false⟩) (hx : Pl.May (m, D.unit, b)) :
    Calls Tryz.prog 56 #[.pointer (some ⟨L, i * 3, none⟩), .string (streamB m D.unit b)] w fun e w' => ∃ g p, e = .returned (.slice (some ⟨g, 0, none⟩) 1 p) /\ w'.cell? ⟨g, 0, none⟩ = some (.int .i64 (m : Nat)) /\ w'.cell? ⟨g, 1, none⟩ = some (.int .i64 (D.unit : Nat)) /\ w'.cell? ⟨g, 2, none⟩ = some (.string b) /\ DevIn w' d L S E wv D /\ FtT D.base (devT d L S E) w w' := by
  have hzs := Pl.streamB_size m D.unit b
  have he : (D.ln i).bytes ++ streamB m D.unit b = streamB m D.unit b := by rw [hln]; apply ByteArray.ext; simp
  have hz2 : ((D.ln i).bytes ++ streamB m D.unit b).size <= 4194304 := by rw [he, hzs]; have := hx.2.2.2; simp only at this; omega
  refine (hear_stream L i D.nl D.ln (streamB m D.unit b) w h.lines hi (by rw [hln]) (by rw [hln]) hz2).mono ?_
  rintro e w1 ⟨v1, n1, acc, t, k, rfl, hown1, hspl, hn1, hG1, hc1⟩
  rw [he] at hspl hG1
  obtain ⟨hacc, htt, hkk⟩ := spl_one hx hspl
  rw [htt, hkk, heard_none] at hG1
  rw [hacc] at hown1
  have hn1' : n1 = 1 := by have := hown1.1; change 3 = n1 * 3 at this; omega
  rw [hn1'] at hown1
  have hgl : ∀ a, (if a = i then (⟨0, ⟨#[]⟩, false⟩ : Ln) else D.ln a) = D.ln a := fun a => by
    by_cases e : a = i
    . rw [if_pos e, e, hln]
    . rw [if_neg e]
  have hG2 : Grid w1 L 116 D.nl 3 (fun a j => lnc (D.ln a) j) := hG1.congr fun a j _ _ => by rw [hgl]
  obtain ⟨cl, hcl⟩ := h.lines.block
  obtain ⟨a1, p1, rfl, hat1⟩ := own_view hown1
  obtain ⟨g1, rfl, hg1, hcells⟩ := hat1 0 (by omega)
  exact ⟨g1, p1, rfl, by rw [hcells 0 (by omega)]; rfl, by rw [hcells 1 (by omega)]; rfl, by rw [hcells 2 (by omega)]; rfl, DevIn.heard (g := D.ln) h hG2 hc1, FtT.chg hc1 hcl (devT_L _ _ _ _) h.lo.2.1⟩
theorem append_nils (W : World) : (Builtin.append_ #[31, 31] 31 #[.slice none 0 0, .slice none 0 0]).run Tryz.prog W = .ok (.slice none 0 0) W := by kernel_rfl
set_option maxRecDepth 100000 in
set_option maxHeartbeats 2000000 in
theorem feed_one (d L S i m : Nat) (E : Nat -> Nat) (wv : Value) (D D' : Dev) (b : ByteArray) (A : List (Int × Int × Int × ByteArray)) (w : World) (h : DevIn w d L S E wv D) (hi : i < D.nl) (hnl : D.nl <= 100) (hln : D.ln i = ⟨0, ⟨#[]⟩, false⟩) (hx : Pl.May (m, D.unit, b)) (ht : TakeIs d L S E wv D D' i m b A) (hA : A.length <= 1) (s : ByteArray) (hs : s = streamB m D.unit b) :
    Calls Tryz.prog 20 #[.pointer (some ⟨d, 0, none⟩), .int .i64 (i : Nat), .string s] w fun e w' => ∃ v wv', e = .returned (.tuple #[v, .int .i64 0]) /\ w'.ownsRow w.heap.size 77 4 v A.length (A.flatMap encA) /\ DevIn w' d L S E wv' D' /\ FtT D.base (devT d L S E) w w' := by
  obtain ⟨i0, hi0, hz0, hz1, hz2⟩ := info_parts Tryz.infoEA
  obtain ⟨c0, c1, c2, c11, c12, c13, c14, cf, hdl⟩ := h.cells
  have hH := hear_one d L S i m E wv D b w h hi hln hx
  rw [<- hs] at hH
  have HHR := hideF hH
  have HH := hideF h
  have HT := hideF ht
  have hiI : (i : Int) < (D.nl : Int) := by omega
  have hap := append_nils
  clear h hln hx ht hH hs
  go_enter Tryz.func20, Tryz.ntmps20
  go_wp2_with fail
  refine (within_yes _ _ _ _ (by omega) (by omega)).mono ?_
  rintro e w0 ⟨rfl, hw0⟩
  rw [hw0]
  clear hw0
  go_wp2_with fail
  refine HHR.out.mono ?_
  rintro e w1 ⟨g1, p1, rfl, f0, f1, f2, hD1, hF1⟩
  have HD1 := hideF hD1
  have HF1 := hideF hF1
  have hs1 := hF1.size
  clear hD1 hF1 HHR c0 c1 c2 c11 c12 c13 c14 cf
  go_wp2_with fail
  go_loopw [29, 8] (fun q v wr => (q = .int .i64 0 /\ v = .slice none 0 0 /\ wr = w1) ∨ (q = .int .i64 1 /\ ∃ wv', wr.ownsRow w.heap.size 77 4 v A.length (A.flatMap encA) /\ DevIn wr d L S E wv' D' /\ FtT D.base (devT d L S E) w wr)) (fun q _ _ => 1 - (intOf q).toNat)
  case atStart => exact .inl ⟨rfl, rfl, rfl⟩
  case round =>
    rcases hrel with ⟨rfl, rfl, rfl⟩ | ⟨rfl, wv', hown, hD, hF⟩
    . obtain ⟨X, hX⟩ : ∃ X, X = wr.alloc (.cells #[.int .i64 (m : Nat), .int .i64 (D.unit : Nat), .string b] 94) := ⟨_, rfl⟩
      have hXb : Below wr.heap.size wr X := by rw [hX]; exact bel_alloc (Below.refl _ _) _
      have HTX := hideF (HT.out X (HD1.out.belowQ hXb))
      have HXF := hideF (HF1.out.then_below hXb)
      have hsX := HXF.out.size
      clear hXb
      go_wp2_with fail
      rw [<- hX]
      clear hX
      refine HTX.out.mono ?_
      rintro e w2 ⟨v2, wv2, rfl, hown2, hnil, hD2, hF2⟩
      have HD2 := hideF hD2
      have HF2 := hideF (HXF.out.trans hF2)
      have HO2 := hideF (own_base (B := w.heap.size) hown2 hsX)
      have hs2 := HF2.out.size
      have hAA : A = [] ∨ ∃ x, A = [x] := by
        match A, hA with
        | [], _ => exact .inl rfl
        | [x], _ => exact .inr ⟨x, rfl⟩
        | _ :: _ :: _, hA => simp at hA
      rcases hAA with hA0 | ⟨x, hA0⟩
      . obtain rfl := hnil hA0
        have HA0 := hideF hA0
        clear hown2 hnil hD2 hF2 HTX hA0
        go_wp2_with fail
        go_roundw
        case rel => exact .inr ⟨rfl, wv2, by rw [HA0.out]; exact World.ownsRow_nil _ _ _ _, HD2.out, HF2.out⟩
        case measure => simp [intOf]
      . have HA0 := hideF hA0
        have hO2 := HO2.out
        rw [hA0] at hO2
        clear HO2 hnil hA0
        have HO2 := hideF hO2
        clear hO2
        obtain ⟨a3, p3, rfl, hat3⟩ := own_view HO2.out
        obtain ⟨g3, rfl, hg3, hc3⟩ := hat3 0 (by simp)
        have HC3 : Hid (∀ j u, ([x].flatMap encA)[j]? = some u -> w2.cell? ((⟨g3, 0, none⟩ : Addr).add j) = some u) := fun j u hj => by
          have hjl : j < ([x].flatMap encA).length := (List.getElem?_eq_some_iff.1 hj).1
          have e : (⟨g3, 0, none⟩ : Addr).add j = ⟨g3, j, none⟩ := by by_cases h0 : j = 0 <;> simp [Addr.add, h0]
          rw [e, hc3 j hjl, hj]
        clear hown2 hD2 hF2 HTX hat3 hc3
        go_wp2_with (at_builtin; refine wpList_append_own _ rfl (.tmp 33) (.tmp 37) 31 rfl w.heap.size 77 i0 _ 4 40 Tryz.underlying31 hi0 hz0 hz1 hz2 rfl (by decide) (.slice none 0 0) 0 [] rfl (World.ownsRow_nil _ _ _ _) ⟨g3, 0, none⟩ 1 p3 ([x].flatMap encA) rfl rfl HC3.out (encA_one _) (by unfold maxLen; omega) (by omega) (by omega) ?_; intro v' w4 hown4 hgrow4 _; obtain ⟨a4, p4, rfl, _⟩ := own_view hown4)
        have HO4 := hideF hown4
        have HF4 := hideF (HF2.out.grown_new hgrow4 (fun k hk => by simp [Value.ownBlock] at hk))
        have HD4 := hideF (HD2.out.keep ((FtT.refl (B := 0) (fun _ t => t == 77) w2).grown_new hgrow4 (fun k hk => by simp [Value.ownBlock] at hk)) (fun _ => rfl) (fun _ => rfl) (fun _ => rfl) (fun _ => rfl) (fun _ => rfl))
        clear hown4 hgrow4
        go_roundw
        case rel => exact .inr ⟨rfl, wv2, by rw [HA0.out]; exact HO4.out, HD4.out, HF4.out⟩
        case measure => simp [intOf]
    . have HO := hideF hown
      have HD := hideF hD
      have HF := hideF hF
      clear hown hD hF
      go_wp2
      go_ret2
      exact ⟨_, wv', rfl, HO.out, HD.out, HF.out⟩
end Go.Proofs.YtcpldcojckhapaaGreat

set_option maxRecDepth 100000
namespace Go.Proofs.YtcpldcojckhapaaGreat
open Go.RowKit
theorem blank_byt (k : Nat) : Pl.byt blank64 k = 0 := by
  rw [byt_listQ, blank64_list, List.getD_eq_getElem?_getD, List.getElem?_replicate]
  split <;> rfl
theorem own_two {w : World} {B : Nat} {v : Value} {x y : Value} (h : w.ownsRow B 9 1 v 2 [x, y]) : ∃ g c, v = .slice (some ⟨g, 0, none⟩) 2 c /\ 2 <= c /\ g < w.heap.size /\ w.cell? ⟨g, 0, none⟩ = some x /\ w.cell? ⟨g, 1, none⟩ = some y := by
  obtain ⟨a, c, rfl, hat⟩ := own_view h
  obtain ⟨g, rfl, hg, hc⟩ := hat 0 (by omega)
  refine ⟨g, c, rfl, ?_, hg, by rw [hc 0 (by omega)]; rfl, by rw [hc 1 (by omega)]; rfl⟩
  rcases h.2 with h0 | ⟨g', cap, cur, hv, hb, hh, h1, h2, h3, h4⟩
  . simp at h0
  . simp only [Value.slice.injEq] at hv
    omega
theorem DevIn.below {w w' : World} {d L S : Nat} {E : Nat -> Nat} {wv : Value} {D : Dev} (h : DevIn w d L S E wv D) (hb : Below w.heap.size w w') : DevIn w' d L S E wv D :=
  ⟨(hb.block d (lt_of_block h.dev)).trans h.dev, h.lines.below hb h.lines.lt, fun i hi => (h.ent i hi).below hb (h.ent i hi).lt, h.inj, (hb.block S (lt_of_block h.store)).trans h.store, ownsRow_below h.wait hb, h.lo⟩
theorem DevAt.below {w w' : World} {d : Nat} {D : Dev} (h : DevAt w d D) (hb : Below w.heap.size w w') : DevAt w' d D := by
  obtain ⟨L, S, E, wv, h⟩ := h
  exact ⟨L, S, E, wv, h.below hb⟩
theorem DevAt.rebase {w : World} {d : Nat} {s0 s1 s2 s3 h u n b : Nat} {kn : Nat -> Nat} {B B' : Nat} (hD : DevAt w d (dev0 s0 s1 s2 s3 h u n b kn B)) (hB : B' <= B) : DevAt w d (dev0 s0 s1 s2 s3 h u n b kn B') := by
  obtain ⟨L, S, E, wv, hd⟩ := hD
  have hlo : B <= d /\ B <= L /\ B <= S /\ ∀ i, i < 4 -> B <= E i := hd.lo
  exact ⟨L, S, E, wv, hd.dev, hd.lines, hd.ent, hd.inj, hd.store, own_base hd.wait hB, Nat.le_trans hB hlo.1, Nat.le_trans hB hlo.2.1, Nat.le_trans hB hlo.2.2.1, fun i hi => Nat.le_trans hB (hlo.2.2.2 i hi)⟩
set_option maxRecDepth 100000 in
set_option maxHeartbeats 2000000 in
theorem opened_at (s0 s1 s2 s3 c h u n k b g : Nat) (kn : Nat -> Nat) (w : World) (b0 : s0 <= 60) (b1 : s1 <= 60) (b2 : s2 <= 60) (b3 : s3 <= 60) (hc : c = 0) (bh : h <= s2) (bh2 : 2 * h <= 62) (bu1 : 1 <= u) (bu2 : u <= 247) (bn1 : 1 <= n) (bn2 : n <= 4) (bb1 : 1 <= b) (bb2 : b <= 8)
    (hg : g < w.heap.size) (hcell : ∀ j, j < n -> w.cell? ⟨g, j, none⟩ = some (.int .i64 (kn j : Nat))) (hk : ∀ j, j < n -> kn j <= 1) :
    Calls Tryz.prog 19 #[.agg #[.int .i64 (s0 : Nat), .int .i64 (s1 : Nat), .int .i64 (s2 : Nat), .int .i64 (s3 : Nat), .int .i64 (c : Nat), .int .i64 (h : Nat), .int .i64 (u : Nat), .slice (some ⟨g, 0, none⟩) n k, .int .i64 (b : Nat)]] w fun e w' => 
      ∃ d v, e = .returned (.tuple #[.pointer (some ⟨d, 0, none⟩), v, .slice none 0 0]) /\ DevAt w' d (dev0 s0 s1 s2 s3 h u n b kn w.heap.size) /\ w'.ownsRow w.heap.size 9 1 v 2 [.string blank64, .string blank64] /\ Below w.heap.size w w' := by
  obtain ⟨W, hW, hWs, hWb, hWg⟩ := cfg_new w s0 s1 s2 s3 c h u b (.slice (some ⟨g, 0, none⟩) n k)
  obtain ⟨i0, hi, hz0, hz1, hz2⟩ := info_parts Tryz.infoET
  have hcc : c <= s0 := by omega
  have HND : Hid (2 = 2 * max 1 (((c + 7) / 8 + 2 * h + 61) / 62)) := by show 2 = _; omega
  have HC0 := hideF hc
  clear hc
  have hcW : ∀ j, j < n -> W.cell? ⟨g, j, none⟩ = some (.int .i64 (kn j : Nat)) := fun j hj => by rw [(bcell hWb).1 g j hg]; exact hcell j hj
  have HCW := hideF hcW
  have HGW := hideF hWg
  have HBW := hideF hWb
  obtain ⟨c0, c1, c2, c3, c4, c5, c6, c7, c8⟩ := cells9 hWg
  have hmk : ∀ W : World, (Instr.makeSlice 114 (.int .i64 64) (.int .i64 64)).run Tryz.prog W = .ok (.slice (some ⟨W.heap.size, 0, none⟩) 64 64) (W.alloc (.cells (madeCells #[.int .u8 0] 64) 5)) := fun W => made_bytesQ 64 (by omega) W
  have hcv : ∀ W : World, (convert 114 9 (.slice (some ⟨W.heap.size, 0, none⟩) 64 64)).run Tryz.prog (W.alloc (.cells (madeCells #[.int .u8 0] 64) 5)) = .ok (.string blank64) (W.alloc (.cells (madeCells #[.int .u8 0] 64) 5)) := fun W => 
    conv_row _ W.heap.size 64 64 (List.replicate 64 0) (by simp) (fun j x hj => by
      rw [List.getElem?_replicate] at hj
      split at hj
      . rename_i hlt
        obtain rfl := (Option.some.inj hj).symm
        rw [cell_of_row _ W.heap.size j _ 5 (0, 0) (heap_alloc_new W _)]
        exact madeBytes_at 64 j hlt
      . simp at hj)
  clear hcell hWg hWb hcW
  go_enter Tryz.func19, Tryz.ntmps19
  go_wp2_with fail
  rw [<- hW]
  clear hW
  refine (need_at s0 s1 s2 s3 c h u n k b g 2 kn W b0 b1 b2 b3 hcc bh bu1 bu2 bn1 bn2 bb1 bb2 (by omega) HCW.out hk HND.out).mono ?_
  rintro e w1 ⟨rfl, hb1⟩
  have HB1 := hideF hb1
  have hs1 := hb1.size
  clear hb1 c0 c1 c2 c3 c4 c5 c6 c7 c8
  go_wp2_with fail
  go_loopw [8, 7] (fun i o wr => ∃ q : Nat, q <= 2 /\ i = .int .i64 (q : Nat) /\ wr.ownsRow w1.heap.size 9 1 o q (List.replicate q (.string blank64)) /\ Below w1.heap.size w1 wr) (fun i _ _ => 2 - (intOf i).toNat)
  case atStart => exact ⟨0, by omega, rfl, World.ownsRow_nil _ _ _ _, Below.refl _ _⟩
  case round =>
    obtain ⟨q, hq, rfl, hown, hb⟩ := hrel
    have hsb := hb.size
    by_cases hlt : q < 2
    . go_wp2_with (at_builtin; refine wpList_append_own _ rfl (.tmp 33) (.tmp 36) 30 rfl w1.heap.size 9 i0 (.string ⟨#[]⟩) 1 16 Tryz.underlying30 hi hz0 hz1 hz2 rfl (by decide) u7 q _ rfl ((hown.alloc _).alloc _) ⟨wr.heap.size + 1, 0, none⟩ 1 1 [.string blank64] rfl rfl (by have := cell_one_new (wr.alloc (.cells (madeCells #[.int .u8 0] 64) 5)) (.string blank64) 9; simpa using this) (by intro u hu; simp at hu; subst hu; rfl) (by unfold maxLen; omega) (by omega) (by simp; omega) ?_; intro v' w3 hown3 hgrow3 _)
      go_roundw
      case rel =>
        refine ⟨q + 1, by omega, by go_num, ?_, ?_⟩
        . rw [List.replicate_succ']; exact hown3
        . exact ((hb.alloc hb.size _).alloc (by simp; omega) _).grown hgrow3 (by simp; omega) (fun k hk => (hown.lt k hk).1)
      case measure => simp [intOf]; omega
    . obtain rfl : q = 2 := by omega
      have hown2 : wr.ownsRow w1.heap.size 9 1 u7 2 [.string blank64, .string blank64] := hown
      obtain ⟨gd, cd, rfl, hcd, hgd, hd0, hd1⟩ := own_two hown2
      have HOW := hideF hown2
      have HB := hideF hb
      clear hown hown2 hb
      go_wp2_with (at_builtin; refine wpList_append_own _ rfl (.tmp 38) (.tmp 39) 30 rfl wr.heap.size 9 i0 (.string ⟨#[]⟩) 1 16 Tryz.underlying30 hi hz0 hz1 hz2 rfl (by decide) (.slice none 0 0) 0 [] rfl (World.ownsRow_nil _ _ _ _) ⟨gd, 0, none⟩ 2 cd [.string blank64, .string blank64] rfl rfl (by intro j u hj; match j, hj with | 0, hj => (simp at hj; subst hj; simpa [Addr.add] using hd0) | 1, hj => (simp at hj; subst hj; simpa [Addr.add] using hd1)) (by intro u hu; simp at hu; subst hu; rfl) (by unfold maxLen; omega) (by omega) (by omega) ?_; intro v' w3 hown3 hgrow3 _; have hB3 : Below wr.heap.size wr w3 := (Below.refl _ _).grown hgrow3 (Nat.le_refl _) (fun k hk => by simp [Value.ownBlock] at hk); have hg3 := (hB3.block w.heap.size (by omega)).trans ((HB.out.block w.heap.size (by omega)).trans ((HB1.out.block w.heap.size (by omega)).trans HGW.out)); obtain ⟨p0, p1, p2, p3, p4, p5, p6, p7, p8⟩ := cells9 hg3; obtain ⟨g2, k2, rfl, hk2, hg2, q0, q1⟩ := own_two hown3)
      have HB3 := hideF (bel_then (bel_then HB1.out HB.out) hB3)
      have hsB3 := hB3.size
      have HOD := hideF (own_same HOW.out (fun g hg => hB3.block g (by obtain ⟨cur, hcur⟩ := own_block HOW.out g hg; exact lt_of_block hcur)))
      clear hown3 hgrow3 hB3 hg3
      refine (open_blank s0 s1 s2 s3 c h u n k b g g2 k2 kn blank64 blank64 w3 b0 b1 b2 b3 HC0.out bh bh2 bu1 bu2 bn1 bn2 bb1 bb2 (by omega) (fun j hj => by rw [(bcell HB3.out).1 g j (by omega)]; exact HCW.out j hj) hk hk2 hg2 q0 q1 blank64_size blank64_size (by decide +kernel) (by decide +kernel) (blank_byt 63) (blank_byt 63)).mono ?_
      rintro e w4 ⟨d, rfl, hdev, hb4⟩
      have HDEV := hideF (DevAt.rebase (B' := w.heap.size) hdev (by omega))
      have HB4 := hideF (bel_then HB3.out hb4)
      have HOD4 := hideF (own_same HOD.out (fun g hg => hb4.block g (by obtain ⟨cur, hcur⟩ := own_block HOD.out g hg; exact lt_of_block hcur)))
      clear hdev hb4 p0 p1 p2 p3 p4 p5 p6 p7 p8 q0 q1
      go_wp2_with fail
      refine (sends_any [] (.slice none 0 0) 0 w4 (by simp) (World.ownsRow_nil _ _ _ _)).mono ?_
      rintro e w5 ⟨u, rfl, hu, hb5⟩
      obtain ⟨ua, uc, rfl, _⟩ := own_view hu
      have HB5 := hideF (bel_then (bel_then HBW.out HB4.out) hb5)
      have HDE5 := hideF (DevAt.below HDEV.out hb5)
      have HOD5 := hideF (own_same HOD4.out (fun g hg => hb5.block g (by obtain ⟨cur, hcur⟩ := own_block HOD4.out g hg; exact lt_of_block hcur)))
      clear hu hb5
      go_wp2
      refine bodyPost_ret (v := .tuple #[.pointer (some ⟨d, 0, none⟩), .slice (some ⟨gd, 0, none⟩) 2 cd, .slice none 0 0]) (by simp [results, Tryz.results19, go_sem]) rfl ⟨_, _, rfl, HDE5.out, own_base HOD5.out (by omega), HB5.out⟩
end Go.Proofs.YtcpldcojckhapaaGreat

set_option maxRecDepth 100000
namespace Go.Proofs.YtcpldcojckhapaaGreat
open Go.RowKit
def entSet (D : Dev) (a : Nat) (v : Nat) (i k : Nat) : Int := if i = 2 /\ k = a then (v : Nat) else D.ent i k
theorem byt_data (s : ByteArray) (l : List UInt8) (h : s.data.toList = l) (k : Nat) : Pl.byt s k = (l.getD k 0).toNat := by rw [Pl.byt_list, h]
section
variable (B d L S : Nat) (E : Nat -> Nat) (wv : Value) (w : World) (x y : Nat) (hx : x < 5) (hy : y < 65536)
include hx hy
end
end Go.Proofs.YtcpldcojckhapaaGreat
