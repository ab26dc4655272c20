/-
  
-/
import Derived.Test.YtcpldcojckhapaaGreatJ22
import Derived.Shelf.Strings.Repeat
import Derived.Test.YtcpldcojckhapaaGreatRows
set_option maxRecDepth 100000
namespace Go.Proofs.YtcpldcojckhapaaGreat
open Go.RowKit
set_option maxRecDepth 100000 in
set_option maxHeartbeats 2000000 in
theorem makeReady_blank (b g k : Nat) (A B : ByteArray) (w : World) (hk : 2 <= k) (hb : w.cell? ⟨b, 0, none⟩ = some (.int .i64 1)) (hb1 : w.cell? ⟨b, 1, none⟩ = some (.int .i64 0)) (hb2 : w.cell? ⟨b, 2, none⟩ = some (.int .u8 0))
    (h0 : w.cell? ⟨g, 0, none⟩ = some (.string A)) (h1 : w.cell? ⟨g, 1, none⟩ = some (.string B)) (hA : A.size = 64) (hB : B.size = 64) (eA : Pl.byt A 63 = 0) (eB : Pl.byt B 63 = 0) :
    Calls Tryz.prog 96 #[.pointer (some ⟨b, 0, none⟩), .slice (some ⟨g, 0, none⟩) 2 k] w fun e w' => e = .returned (.slice none 0 0) /\ ∃ n, w' = w.drewN n := by
  have HA := hideF hA
  have HB := hideF hB
  have EA := hideF eA
  have EB := hideF eB
  clear hA hB eA eB
  go_enter Tryz.func96, Tryz.ntmps96
  go_wp2_with fail
  go_quiet (fail)
  go_wp2_with fail
  go_loopw [18, 6, 7, 5] (fun i wh st ac wr => ac = .slice none 0 0 /\ (∃ m, wr = w.drewN m) /\ (i = .int .i64 0 /\ wh = .int .i64 0 /\ st = .int .u8 0 ∨ i = .int .i64 1 /\ wh = .int .i64 1 /\ st = .int .u8 1 ∨ i = .int .i64 2 /\ wh = .int .i64 0 /\ st = .int .u8 2)) (fun i _ _ _ _ => 2 - (intOf i).toNat)
  case atStart => exact ⟨rfl, ⟨_, rfl⟩, .inl ⟨rfl, rfl, rfl⟩⟩
  case round =>
    obtain ⟨rfl, ⟨m, rfl⟩, (⟨rfl, rfl, rfl⟩ | ⟨rfl, rfl, rfl⟩ | ⟨rfl, rfl, rfl⟩)⟩ := hrel
    . go_wp2_with fail
      refine (other_at 0 1 rfl _ (by omega)).mono ?_
      rintro e w1 ⟨rfl, rfl⟩
      go_wp2_with fail
      refine (next_at 0 1 rfl _ (by omega)).mono ?_
      rintro e w2 ⟨rfl, rfl⟩
      go_wp2_with fail
      refine (copyOn_1 b g k _ hk (by simpa using hb)).mono ?_
      rintro e w3 ⟨rfl, n3, rfl⟩
      go_wp2_with fail
      go_loopw [29, 5] (fun i ac wr => ac = .slice none 0 0 /\ (∃ m, wr = w.drewN m) /\ (i = .int .i64 0 ∨ i = .int .i64 1)) (fun i _ _ => 1 - (intOf i).toNat)
      case atStart => exact ⟨rfl, ⟨_, rfl⟩, .inl rfl⟩
      case round =>
        obtain ⟨rfl, ⟨m', rfl⟩, (rfl | rfl)⟩ := hrel
        . go_wp2_with fail
          refine (endOf_at B _ HB.out).mono ?_
          rintro e w4 ⟨rfl, rfl⟩
          rw [EB.out]
          go_wp2_with fail
          go_roundw
          case rel => exact ⟨rfl, ⟨_, rfl⟩, .inr (by go_num)⟩
          case measure => simp [intOf]
        . go_wp2_with fail
          go_roundw
          case rel => exact ⟨rfl, ⟨_, rfl⟩, .inr (.inl ⟨by go_num, by go_num, by go_num⟩)⟩
          case measure => simp [intOf]
    . go_wp2_with fail
      refine (other_at 1 0 rfl _ (by omega)).mono ?_
      rintro e w1 ⟨rfl, rfl⟩
      go_wp2_with fail
      refine (next_at 1 2 rfl _ (by omega)).mono ?_
      rintro e w2 ⟨rfl, rfl⟩
      go_wp2_with fail
      refine (copyOn_0 b g k _ hk (by simpa using hb)).mono ?_
      rintro e w3 ⟨rfl, n3, rfl⟩
      go_wp2_with fail
      go_loopw [29, 5] (fun i ac wr => ac = .slice none 0 0 /\ (∃ m, wr = w.drewN m) /\ (i = .int .i64 0 ∨ i = .int .i64 1)) (fun i _ _ => 1 - (intOf i).toNat)
      case atStart => exact ⟨rfl, ⟨_, rfl⟩, .inl rfl⟩
      case round =>
        obtain ⟨rfl, ⟨m', rfl⟩, (rfl | rfl)⟩ := hrel
        . go_wp2_with fail
          refine (endOf_at A _ HA.out).mono ?_
          rintro e w4 ⟨rfl, rfl⟩
          rw [EA.out]
          go_wp2_with fail
          go_roundw
          case rel => exact ⟨rfl, ⟨_, rfl⟩, .inr (by go_num)⟩
          case measure => simp [intOf]
        . go_wp2_with fail
          go_roundw
          case rel => exact ⟨rfl, ⟨_, rfl⟩, .inr (.inr ⟨by go_num, by go_num, by go_num⟩)⟩
          case measure => simp [intOf]
    . go_wp2
      go_ret
      exact ⟨rfl, _, rfl⟩
end Go.Proofs.YtcpldcojckhapaaGreat

set_option maxRecDepth 100000
namespace Go.Proofs.YtcpldcojckhapaaGreat
open Go.Shelf
def layRep_ren : Go.Shelf.Ren := ⟨fun | 105 => 93 | 212 => 121 | 99 => 122 | 165 => 123 | 166 => 124 | 170 => 125 | 169 => 126 | 263 => 148 | 264 => 149 | 206 => 150 | 240 => 151 | 241 => 152 | 276 => 170 | 277 => 171 | n => n, fun | 9 => 9 | 3 => 3 | 4 => 4 | 20 => 20 | 0 => 0 | 46 => 128 | 109 => 198 | 5 => 5 | 72 => 203 | 76 => 207 | 51 => 225 | 146 => 226 | 53 => 228 | 148 => 229 | 70 => 201 | 37 => 114 | 75 => 206 | 127 => 217 | 164 => 248 | 80 => 120 | n => n, fun | n => n⟩
theorem layRep : Go.Proofs.Lays.n105 Tryz.prog layRep_ren := {
  mixed := by kernel_rfl
  f99 := Tryz.func122.trans (congrArg some (by kernel_rfl))
  f105 := Tryz.func93.trans (congrArg some (by kernel_rfl))
  f165 := Tryz.func123.trans (congrArg some (by kernel_rfl))
  f166 := Tryz.func124.trans (congrArg some (by kernel_rfl))
  f169 := Tryz.func126.trans (congrArg some (by kernel_rfl))
  f170 := Tryz.func125.trans (congrArg some (by kernel_rfl))
  f206 := Tryz.func150.trans (congrArg some (by kernel_rfl))
  f212 := Tryz.func121.trans (congrArg some (by kernel_rfl))
  f240 := Tryz.func151.trans (congrArg some (by kernel_rfl))
  f241 := Tryz.func152.trans (congrArg some (by kernel_rfl))
  f263 := Tryz.func148.trans (congrArg some (by kernel_rfl))
  f264 := Tryz.func149.trans (congrArg some (by kernel_rfl))
  f276 := Tryz.func170.trans (congrArg some (by kernel_rfl))
  f277 := Tryz.func171.trans (congrArg some (by kernel_rfl))
  t0 := Tryz.underlying0
  a0 := Tryz.isAgg0
  z0 := Tryz.sizeOf0
  v0 := Tryz.zeroValue0
  t3 := Tryz.underlying3
  a3 := Tryz.isAgg3
  z3 := Tryz.sizeOf3
  v3 := Tryz.zeroValue3
  t4 := Tryz.underlying4
  a4 := Tryz.isAgg4
  z4 := Tryz.sizeOf4
  v4 := Tryz.zeroValue4
  t5 := Tryz.underlying5
  a5 := Tryz.isAgg5
  z5 := Tryz.sizeOf5
  v5 := Tryz.zeroValue5
  t9 := Tryz.underlying9
  a9 := Tryz.isAgg9
  z9 := Tryz.sizeOf9
  v9 := Tryz.zeroValue9
  t20 := Tryz.underlying20
  a20 := Tryz.isAgg20
  z20 := Tryz.sizeOf20
  v20 := Tryz.zeroValue20
  t37 := Tryz.underlying114
  a37 := Tryz.isAgg114
  z37 := Tryz.sizeOf114
  v37 := Tryz.zeroValue114
  t46 := Tryz.underlying128
  a46 := Tryz.isAgg128
  z46 := Tryz.sizeOf128
  v46 := Tryz.zeroValue128
  t51 := Tryz.underlying225
  a51 := Tryz.isAgg225
  z51 := Tryz.sizeOf225
  v51 := Tryz.zeroValue225
  t53 := Tryz.underlying228
  a53 := Tryz.isAgg228
  z53 := Tryz.sizeOf228
  v53 := Tryz.zeroValue228
  t70 := Tryz.underlying201
  a70 := Tryz.isAgg201
  z70 := Tryz.sizeOf201
  v70 := Tryz.zeroValue201
  t72 := Tryz.underlying203
  a72 := Tryz.isAgg203
  z72 := Tryz.sizeOf203
  v72 := Tryz.zeroValue203
  t75 := Tryz.underlying206
  a75 := Tryz.isAgg206
  z75 := Tryz.sizeOf206
  v75 := Tryz.zeroValue206
  t76 := Tryz.underlying207
  a76 := Tryz.isAgg207
  z76 := Tryz.sizeOf207
  v76 := Tryz.zeroValue207
  t109 := Tryz.underlying198
  a109 := Tryz.isAgg198
  z109 := Tryz.sizeOf198
  v109 := Tryz.zeroValue198
  t127 := Tryz.underlying217
  a127 := Tryz.isAgg217
  z127 := Tryz.sizeOf217
  v127 := Tryz.zeroValue217
  t146 := Tryz.underlying226
  a146 := Tryz.isAgg226
  z146 := Tryz.sizeOf226
  v146 := Tryz.zeroValue226
  t148 := Tryz.underlying229
  a148 := Tryz.isAgg229
  z148 := Tryz.sizeOf229
  v148 := Tryz.zeroValue229
  t164 := Tryz.underlying248
  a164 := Tryz.isAgg248
  z164 := Tryz.sizeOf248
  v164 := Tryz.zeroValue248 }
theorem layRepX : Builder.Extra Tryz.prog layRep_ren := {
  sizeBuilder := by kernel_rfl
  liesBuilder := by kernel_rfl
  t5 := Tryz.underlying5
  a5 := Tryz.isAgg5
  z5 := Tryz.sizeOf5
  v5 := Tryz.zeroValue5
  infoByte := by kernel_rfl
  cellsByte := by kernel_rfl
  sizeByte := by kernel_rfl
  neB5 := by decide }
open Go.RowKit Go.Lib in
theorem repeat_any (s : ByteArray) (c : Nat) (w : World) (hc : c <= 9223372036854775807) (hlen : s.size * c <= 140737488355328) :
    Calls Tryz.prog 93 #[.string s, .int .i64 c] w fun e w' => e = .returned (.string ⟨(Lib.repeatL s.data.toList c).toArray⟩) /\ Below w.heap.size w w' := Any.strings_Repeat layRep layRepX s c w hc hlen
end Go.Proofs.YtcpldcojckhapaaGreat

set_option maxRecDepth 100000
namespace Go.Proofs.YtcpldcojckhapaaGreat
open Go.RowKit
def zerosB (z : Nat) : ByteArray := ⟨(Lib.repeatL [0] z).toArray⟩
theorem cells3 {W : World} {g : Nat} {t : TypeId} {a0 a1 a2 : Value} (h : W.heap[g]? = some (.cells #[a0, a1, a2] t (0, 0))) : W.cell? ⟨g, 0, none⟩ = some a0 /\ W.cell? ⟨g, 1, none⟩ = some a1 /\ W.cell? ⟨g, 2, none⟩ = some a2 :=
  ⟨cell_of_row W g 0 _ t (0, 0) h, cell_of_row W g 1 _ t (0, 0) h, cell_of_row W g 2 _ t (0, 0) h⟩
set_option maxRecDepth 100000 in
set_option maxHeartbeats 1000000 in
theorem storeOpen_blank (z g k : Nat) (A B : ByteArray) (w : World) (hz : z <= 62) (hk : 2 <= k) (hg : g < w.heap.size) (h0 : w.cell? ⟨g, 0, none⟩ = some (.string A)) (h1 : w.cell? ⟨g, 1, none⟩ = some (.string B))
    (hA : A.size = 64) (hB : B.size = 64) (sA : 0 = stampL A) (sB : 0 = stampL B) (eA : Pl.byt A 63 = 0) (eB : Pl.byt B 63 = 0) :
    Calls Tryz.prog 62 #[.int .i64 (z : Nat), .slice (some ⟨g, 0, none⟩) 2 k] w fun e w' => e = .returned (.tuple #[.pointer (some ⟨w.heap.size, 0, none⟩), .string (zerosB z), .slice none 0 0]) /\
      w'.heap[w.heap.size]? = some (.cells #[.int .i64 1, .int .i64 0, .int .u8 0] 155 (0, 0)) /\ Below w.heap.size w w' := by
  have HA := hideF hA
  have HB := hideF hB
  have HSA := hideF sA
  have HSB := hideF sB
  have EA := hideF eA
  have EB := hideF eB
  clear hA hB sA sB eA eB
  go_enter Tryz.func62, Tryz.ntmps62
  go_wp2_with fail
  refine (sectorsOf_at z 1 (by omega) _ (by omega)).mono ?_
  rintro e w1 ⟨rfl, rfl⟩
  obtain ⟨W, hW⟩ : ∃ W, W = w1.alloc (.cells #[.int .i64 1, .int .i64 0, .int .u8 0] 155) := ⟨_, rfl⟩
  have hWs : W.heap.size = w1.heap.size + 1 := by rw [hW]; simp
  have hWb : Below w1.heap.size w1 W := by rw [hW]; exact bel_alloc (Below.refl _ _) _
  have hWg : W.heap[w1.heap.size]? = some (.cells #[.int .i64 1, .int .i64 0, .int .u8 0] 155 (0, 0)) := by rw [hW]; exact heap_alloc_new w1 _
  obtain ⟨c0, c1, c2⟩ := cells3 hWg
  have d0 : W.cell? ⟨g, 0, none⟩ = some (.string A) := by rw [(bcell hWb).1 g _ hg]; exact h0
  have d1 : W.cell? ⟨g, 1, none⟩ = some (.string B) := by rw [(bcell hWb).1 g _ hg]; exact h1
  clear h0 h1
  go_wp2_with fail
  rw [<- hW]
  have HW := hideF hW
  clear hW
  refine (findLatest_blank w1.heap.size g k A B W hk c0 d0 d1 HA.out HB.out HSA.out HSB.out).mono ?_
  rintro e w2 ⟨rfl, n2, hw2⟩
  have hg2 : w2.heap[w1.heap.size]? = some (.cells #[.int .i64 1, .int .i64 0, .int .u8 0] 155 (0, 0)) := by rw [hw2]; simpa using hWg
  have hb2 : Below w1.heap.size w1 w2 := by rw [hw2]; exact below_drewN hWb _
  have hs2 : w2.heap.size = w1.heap.size + 1 := by rw [hw2]; simpa using hWs
  have e0 : w2.cell? ⟨g, 0, none⟩ = some (.string A) := by rw [hw2]; simpa using d0
  have e1 : w2.cell? ⟨g, 1, none⟩ = some (.string B) := by rw [hw2]; simpa using d1
  clear c0 c1 c2 d0 d1 hWs hWb hWg hw2 HW
  go_wp2_with fail
  refine (repeat_any ⟨#[0]⟩ z w2 (by omega) (by show 1 * z <= _; omega)).mono ?_
  rintro e w3 ⟨rfl, hb3⟩
  have hg3 := (hb3.block w1.heap.size (by omega)).trans hg2
  have f0 : w3.cell? ⟨g, 0, none⟩ = some (.string A) := by rw [(bcell hb3).1 g _ (by omega)]; exact e0
  have f1 : w3.cell? ⟨g, 1, none⟩ = some (.string B) := by rw [(bcell hb3).1 g _ (by omega)]; exact e1
  have hB3 := bel_then hb2 hb3
  have HB3 := hideF hB3
  have HG3 := hideF hg3
  obtain ⟨c0, c1, c2⟩ := cells3 hg3
  clear e0 e1 hb3 hb2 hg2 hs2 hB3 hg3
  go_wp2_with fail
  refine (makeReady_blank w1.heap.size g k A B w3 hk c0 c1 c2 f0 f1 HA.out HB.out EA.out EB.out).mono ?_
  rintro e w4 ⟨rfl, n4, rfl⟩
  go_wp2
  refine bodyPost_ret (v := .tuple #[.pointer (some ⟨w1.heap.size, 0, none⟩), .string (zerosB z), .slice none 0 0]) (by simp [results, Tryz.results62, go_sem, zerosB]) rfl ⟨rfl, ?_, below_drewN HB3.out _⟩
  simpa using HG3.out
end Go.Proofs.YtcpldcojckhapaaGreat
