/-
  
-/
import Derived.Test.YtcpldcojckhapaaGreatX1
namespace Go.Proofs.YtcpldcojckhapaaGreat
open Go.Conc
variable {P : Program}
theorem nt_forInList {α β : Type} (f : α -> β -> Sem (ForInStep β)) (hf : ∀ a b, Nt P (f a b)) : ∀ (l : List α) (b : β), Nt P (forIn l b f)
  | [], b => by rw [List.forIn_nil]; trivial
  | a :: l, b => by
    rw [List.forIn_cons]
    refine nt_bind (hf a b) fun r => ?_
    cases r with
    | done b => exact trivial
    | yield b => exact nt_forInList f hf l b
theorem nt_forInArr {α β : Type} (l : Array α) (b : β) (f : α -> β -> Sem (ForInStep β)) (hf : ∀ a b, Nt P (f a b)) : Nt P (forIn l b f) := by
  rw [<- Array.forIn_toList]
  exact nt_forInList f hf _ _
theorem nt_forInRange {β : Type} (l : Std.Legacy.Range) (b : β) (f : Nat -> β -> Sem (ForInStep β)) (hf : ∀ a b, Nt P (f a b)) : Nt P (forIn l b f) := by
  rw [Std.Legacy.Range.forIn_eq_forIn_range']
  exact nt_forInList f hf _ _
theorem nt_equalIn (d : Nat) (t : TypeId) (x y : Value) : Nt P (Op.equalIn d t x y) := by
  induction d generalizing t x y with
  | zero => exact trivial
  | succ d ih =>
    unfold Op.equalIn
    repeat' first | exact trivial | assumption | apply ih | apply nt_forInArr | apply nt_forInRange | with_reducible apply nt_slice | with_reducible apply nt_byteOf | with_reducible apply nt_samePointer | with_reducible apply nt_sameAddr | with_reducible apply nt_behindNumber | with_reducible apply nt_typeStr | with_reducible apply nt_runtimePanic | with_reducible apply nt_part | with_reducible apply nt_sizeOf | with_reducible apply nt_underlying | with_reducible apply nt_typeInfo | with_reducible apply nt_program | with_reducible apply nt_choose | with_reducible apply nt_unsupported | with_reducible apply nt_stuck | with_reducible apply nt_pure | with_reducible apply nt_ite | with_reducible apply nt_bind | with_reducible intro _ | split | dsimp only | apply nt_bind
theorem nt_eqGuardIn (d : Nat) (t : TypeId) (x y : Value) : Nt P (Op.eqGuardIn d t x y) := by
  induction d generalizing t x y with
  | zero => exact trivial
  | succ d ih =>
    unfold Op.eqGuardIn
    repeat' first | exact trivial | assumption | apply ih | apply nt_forInArr | apply nt_forInRange | with_reducible apply nt_part | with_reducible apply nt_sizeOf | with_reducible apply nt_underlying | with_reducible apply nt_unsupported | with_reducible apply nt_pure | with_reducible apply nt_ite | with_reducible apply nt_bind | with_reducible intro _ | split | dsimp only | apply nt_bind
theorem nt_equal (t : TypeId) (x y : Value) : Nt P (Op.equal t x y) := by
  unfold Op.equal
  repeat' first | exact trivial | assumption | with_reducible apply nt_equalIn | with_reducible apply nt_pure | with_reducible apply nt_ite | with_reducible apply nt_bind | with_reducible intro _ | split | dsimp only | apply nt_bind
theorem nt_eqGuard (o : BinOp) (t : TypeId) (x y : Operand) (a b : Value) : Nt P (eqGuard o t x y a b) := by
  unfold eqGuard
  repeat' first | exact trivial | assumption | with_reducible apply nt_eqGuardIn | with_reducible apply nt_part | with_reducible apply nt_program | with_reducible apply nt_unsupported | with_reducible apply nt_pure | with_reducible apply nt_ite | with_reducible apply nt_bind | with_reducible intro _ | split | dsimp only | apply nt_bind
theorem nt_twoPlaces (a b : Addr) : Nt P (Op.twoPlaces a b) := by
  unfold Op.twoPlaces
  repeat' first | exact trivial | assumption | with_reducible apply nt_byteOf | with_reducible apply nt_program | with_reducible apply nt_unsupported | with_reducible apply nt_pure | with_reducible apply nt_ite | with_reducible apply nt_bind | with_reducible intro _ | split | dsimp only | apply nt_bind
theorem nt_addrSub (k : IntKind) (a b : Addr) : Nt P (Op.addrSub k a b) := by
  unfold Op.addrSub
  repeat' first | exact trivial | assumption | with_reducible apply nt_twoPlaces | with_reducible apply nt_pure | with_reducible apply nt_ite | with_reducible apply nt_bind | with_reducible intro _ | split | dsimp only | apply nt_bind
theorem nt_addrCmp (o : BinOp) (a b : Addr) : Nt P (Op.addrCmp o a b) := by
  unfold Op.addrCmp
  repeat' first | exact trivial | assumption | with_reducible apply nt_twoPlaces | with_reducible apply nt_unsupported | with_reducible apply nt_pure | with_reducible apply nt_ite | with_reducible apply nt_bind | with_reducible intro _ | split | dsimp only | apply nt_bind
theorem nt_addrMod (k : IntKind) (a : Addr) (n : Int) : Nt P (Op.addrMod k a n) := by
  unfold Op.addrMod
  repeat' first | exact trivial | assumption | with_reducible apply nt_byteOf | with_reducible apply nt_typeInfo | with_reducible apply nt_shape | with_reducible apply nt_unsupported | with_reducible apply nt_pure | with_reducible apply nt_ite | with_reducible apply nt_bind | with_reducible intro _ | split | dsimp only | apply nt_bind
theorem nt_unsafeAdd_ (a : Array TypeId) (t : TypeId) (v : Array Value) : Nt P (Builtin.unsafeAdd_ a t v) := by
  unfold Builtin.unsafeAdd_
  rcases v with ⟨_ | ⟨x, _ | ⟨y, _ | ⟨z, l⟩⟩⟩⟩
  . exact trivial
  . exact trivial
  . cases x <;> first | exact trivial | skip
    refine nt_bind (nt_asInt y) fun n => ?_
    repeat' first | exact trivial | assumption | with_reducible apply nt_viewAt | with_reducible apply nt_asInt | with_reducible apply nt_program | with_reducible apply nt_shape | with_reducible apply nt_unsupported | with_reducible apply nt_stuck | with_reducible apply nt_pure | with_reducible apply nt_ite | with_reducible apply nt_bind | with_reducible intro _ | split | dsimp only | apply nt_bind
  . exact trivial
theorem nt_movedNumber (t : TypeId) (x y : Value) : Nt P (movedNumber t x y) := by
  unfold movedNumber
  repeat' first | exact trivial | assumption | with_reducible apply nt_unsafeAdd_ | with_reducible apply nt_behindNumber | with_reducible apply nt_asNumber | with_reducible apply nt_underlying | with_reducible apply nt_unsupported | with_reducible apply nt_pure | with_reducible apply nt_ite | with_reducible apply nt_bind | with_reducible intro _ | split | dsimp only | apply nt_bind
theorem nt_movedPointer (t : TypeId) (x y : Value) : Nt P (movedPointer t x y) := by
  unfold movedPointer
  repeat' first | exact trivial | assumption | with_reducible apply nt_unsafeAdd_ | with_reducible apply nt_numberAt | with_reducible apply nt_unsupported | with_reducible apply nt_pure | with_reducible apply nt_ite | with_reducible apply nt_bind | with_reducible intro _ | split | dsimp only | apply nt_bind
theorem nt_floatArith (o : BinOp) (k : FloatKind) (x y : Nat) : Nt P (Op.floatArith o k x y) := by
  unfold Op.floatArith
  repeat' first | exact trivial | assumption | with_reducible apply nt_choose | with_reducible apply nt_stuck | with_reducible apply nt_pure | with_reducible apply nt_ite | with_reducible apply nt_bind | with_reducible intro _ | split | dsimp only | apply nt_bind
theorem nt_floatCmp (o : BinOp) (k : FloatKind) (x y : Nat) : Nt P (Op.floatCmp o k x y) := by
  unfold Op.floatCmp
  repeat' first | exact trivial | assumption | with_reducible apply nt_stuck | with_reducible apply nt_pure | with_reducible apply nt_ite | with_reducible apply nt_bind | with_reducible intro _ | split | dsimp only | apply nt_bind
theorem nt_floatToFloat (k : FloatKind) (b : Nat) (d : FloatKind) : Nt P (Conv.floatToFloat k b d) := by
  unfold Conv.floatToFloat
  repeat' first | exact trivial | assumption | with_reducible apply nt_choose | with_reducible apply nt_pure | with_reducible apply nt_ite | with_reducible apply nt_bind | with_reducible intro _ | split | dsimp only | apply nt_bind
theorem nt_arith (o : BinOp) (k : FloatKind) (x y : Nat) : Nt P (Op.Complex.arith o k x y) := by
  unfold Op.Complex.arith
  repeat' first | exact trivial | assumption | with_reducible apply nt_floatArith | with_reducible apply nt_stuck | with_reducible apply nt_pure | with_reducible apply nt_ite | with_reducible apply nt_bind | with_reducible intro _ | split | dsimp only | apply nt_bind
theorem nt_cmp (o : BinOp) (k : FloatKind) (x y : Nat) : Nt P (Op.Complex.cmp o k x y) := by
  unfold Op.Complex.cmp
  repeat' first | exact trivial | assumption | with_reducible apply nt_floatCmp | with_reducible apply nt_asBool | with_reducible apply nt_pure | with_reducible apply nt_ite | with_reducible apply nt_bind | with_reducible intro _ | split | dsimp only | apply nt_bind
theorem nt_conv (o : FloatKind) (k : Nat) (x : FloatKind) : Nt P (Op.Complex.conv o k x) := by
  unfold Op.Complex.conv
  repeat' first | exact trivial | assumption | with_reducible apply nt_floatToFloat | with_reducible apply nt_stuck | with_reducible apply nt_pure | with_reducible apply nt_ite | with_reducible apply nt_bind | with_reducible intro _ | split | dsimp only | apply nt_bind
theorem nt_add (x y : Nat) : Nt P (Op.Complex.add x y) := by
  unfold Op.Complex.add
  repeat' first | exact trivial | assumption | with_reducible apply nt_arith | with_reducible apply nt_intArith | with_reducible apply nt_index | with_reducible apply nt_slice | with_reducible apply nt_store | with_reducible apply nt_pure | with_reducible apply nt_ite | with_reducible apply nt_bind | with_reducible intro _ | split | dsimp only | apply nt_bind
theorem nt_sub (x y : Nat) : Nt P (Op.Complex.sub x y) := by
  unfold Op.Complex.sub
  repeat' first | exact trivial | assumption | with_reducible apply nt_arith | with_reducible apply nt_pure | with_reducible apply nt_ite | with_reducible apply nt_bind | with_reducible intro _ | split | dsimp only | apply nt_bind
theorem nt_mul (x y : Nat) : Nt P (Op.Complex.mul x y) := by
  unfold Op.Complex.mul
  repeat' first | exact trivial | assumption | with_reducible apply nt_arith | with_reducible apply nt_pure | with_reducible apply nt_ite | with_reducible apply nt_bind | with_reducible intro _ | split | dsimp only | apply nt_bind
theorem nt_quo (x y : Nat) : Nt P (Op.Complex.quo x y) := by
  unfold Op.Complex.quo
  repeat' first | exact trivial | assumption | with_reducible apply nt_arith | with_reducible apply nt_pure | with_reducible apply nt_ite | with_reducible apply nt_bind | with_reducible intro _ | split | dsimp only | apply nt_bind
theorem nt_product (a b c d : Nat) : Nt P (Op.Complex.product a b c d) := by
  unfold Op.Complex.product
  repeat' first | exact trivial | assumption | with_reducible apply nt_mul | with_reducible apply nt_sub | with_reducible apply nt_add | with_reducible apply nt_pure | with_reducible apply nt_ite | with_reducible apply nt_bind | with_reducible intro _ | split | dsimp only | apply nt_bind
theorem nt_corrected (s a b c d : Nat) : Nt P (Op.Complex.corrected s a b c d) := by
  unfold Op.Complex.corrected
  repeat' first | exact trivial | assumption | with_reducible apply nt_mul | with_reducible apply nt_sub | with_reducible apply nt_add | with_reducible apply nt_pure | with_reducible apply nt_ite | with_reducible apply nt_bind | with_reducible intro _ | split | dsimp only | apply nt_bind
set_option maxHeartbeats 2000000 in
theorem nt_quotient (a b c d : Nat) : Nt P (Op.Complex.quotient a b c d) := by
  unfold Op.Complex.quotient
  repeat' first | exact trivial | assumption | with_reducible apply nt_corrected | with_reducible apply nt_quo | with_reducible apply nt_mul | with_reducible apply nt_sub | with_reducible apply nt_add | with_reducible apply nt_cmp | with_reducible apply nt_pure | with_reducible apply nt_ite | with_reducible apply nt_bind | with_reducible intro _ | split | dsimp only | apply nt_bind
theorem nt_complexOp (o : BinOp) (k : FloatKind) (a b c d : Nat) : Nt P (Op.complexOp o k a b c d) := by
  unfold Op.complexOp
  repeat' first | exact trivial | assumption | with_reducible apply nt_quotient | with_reducible apply nt_product | with_reducible apply nt_quo | with_reducible apply nt_mul | with_reducible apply nt_sub | with_reducible apply nt_add | with_reducible apply nt_conv | with_reducible apply nt_cmp | with_reducible apply nt_arith | with_reducible apply nt_stuck | with_reducible apply nt_pure | with_reducible apply nt_ite | with_reducible apply nt_bind | with_reducible intro _ | split | dsimp only | apply nt_bind
set_option maxHeartbeats 8000000 in
theorem nt_binOp (o : BinOp) (t : TypeId) (x y : Value) : Nt P (binOp o t x y) := by
  unfold binOp
  repeat' first | exact trivial | assumption | with_reducible apply nt_complexOp | with_reducible apply nt_quo | with_reducible apply nt_mul | with_reducible apply nt_sub | with_reducible apply nt_add | with_reducible apply nt_floatCmp | with_reducible apply nt_floatArith | with_reducible apply nt_movedPointer | with_reducible apply nt_movedNumber | with_reducible apply nt_addrMod | with_reducible apply nt_addrCmp | with_reducible apply nt_addrSub | with_reducible apply nt_equal | with_reducible apply nt_stringOp | with_reducible apply nt_shift | with_reducible apply nt_intDiv | with_reducible apply nt_intCmp | with_reducible apply nt_intBits | with_reducible apply nt_intArith | with_reducible apply nt_behindNumber | with_reducible apply nt_underlying | with_reducible apply nt_unsupported | with_reducible apply nt_stuck | with_reducible apply nt_pure | with_reducible apply nt_ite | with_reducible apply nt_bind | with_reducible intro _ | split | dsimp only | apply nt_bind
end Go.Proofs.YtcpldcojckhapaaGreat

namespace Go.Proofs.YtcpldcojckhapaaGreat
open Go.Conc
variable {P : Program}
theorem nt_intToInt (k : IntKind) (n : Int) : Nt P (Conv.intToInt k n) := by
  unfold Conv.intToInt
  repeat' first | exact trivial | assumption | with_reducible apply nt_pure | with_reducible apply nt_ite | with_reducible apply nt_bind | with_reducible intro _ | split | dsimp only | apply nt_bind
theorem nt_intToFloat (k : FloatKind) (n : Int) : Nt P (Conv.intToFloat k n) := by
  unfold Conv.intToFloat
  repeat' first | exact trivial | assumption | with_reducible apply nt_pure | with_reducible apply nt_ite | with_reducible apply nt_bind | with_reducible intro _ | split | dsimp only | apply nt_bind
theorem nt_floatToInt (k : FloatKind) (n : Nat) (d : IntKind) : Nt P (Conv.floatToInt k n d) := by
  unfold Conv.floatToInt
  repeat' first | exact trivial | assumption | with_reducible apply nt_choose | with_reducible apply nt_pure | with_reducible apply nt_ite | with_reducible apply nt_bind | with_reducible intro _ | split | dsimp only | apply nt_bind
theorem nt_complexToComplex (s : FloatKind) (a b : Nat) (k : FloatKind) : Nt P (Conv.complexToComplex s a b k) := by
  unfold Conv.complexToComplex
  repeat' first | exact trivial | assumption | with_reducible apply nt_floatToFloat | with_reducible apply nt_stuck | with_reducible apply nt_pure | with_reducible apply nt_ite | with_reducible apply nt_bind | with_reducible intro _ | split | dsimp only | apply nt_bind
theorem nt_intToString (n : Int) : Nt P (Conv.intToString n) := by
  unfold Conv.intToString
  repeat' first | exact trivial | assumption | with_reducible apply nt_pure | with_reducible apply nt_ite | with_reducible apply nt_bind | with_reducible intro _ | split | dsimp only | apply nt_bind
theorem nt_stringToBytes (t : TypeId) (s : ByteArray) : Nt P (Conv.stringToBytes t s) := by
  unfold Conv.stringToBytes
  repeat' first | exact trivial | assumption | with_reducible apply nt_slice | with_reducible apply nt_markStringish | with_reducible apply nt_newRow | with_reducible apply nt_choose | with_reducible apply nt_pure | with_reducible apply nt_ite | with_reducible apply nt_bind | with_reducible intro _ | split | dsimp only | apply nt_bind
theorem nt_stringToRunes (t : TypeId) (s : ByteArray) : Nt P (Conv.stringToRunes t s) := by
  unfold Conv.stringToRunes
  repeat' first | exact trivial | assumption | with_reducible apply nt_slice | with_reducible apply nt_newRow | with_reducible apply nt_choose | with_reducible apply nt_pure | with_reducible apply nt_ite | with_reducible apply nt_bind | with_reducible intro _ | split | dsimp only | apply nt_bind
theorem nt_bytesToString (v : Value) : Nt P (Conv.bytesToString v) := by
  unfold Conv.bytesToString
  repeat' first | exact trivial | assumption | apply nt_forInArr | with_reducible apply nt_slice | with_reducible apply nt_loadCells | with_reducible apply nt_stuck | with_reducible apply nt_pure | with_reducible apply nt_ite | with_reducible apply nt_bind | with_reducible intro _ | split | dsimp only | apply nt_bind
theorem nt_runesToString (v : Value) : Nt P (Conv.runesToString v) := by
  unfold Conv.runesToString
  repeat' first | exact trivial | assumption | apply nt_forInArr | with_reducible apply nt_slice | with_reducible apply nt_loadCells | with_reducible apply nt_stuck | with_reducible apply nt_pure | with_reducible apply nt_ite | with_reducible apply nt_bind | with_reducible intro _ | split | dsimp only | apply nt_bind
theorem nt_seenAt (a : Addr) : Nt P (Conv.seenAt a) := by
  unfold Conv.seenAt
  repeat' first | exact trivial | assumption | with_reducible apply nt_viewAt | with_reducible apply nt_program | with_reducible apply nt_shape | with_reducible apply nt_unsupported | with_reducible apply nt_pure | with_reducible apply nt_ite | with_reducible apply nt_bind | with_reducible intro _ | split | dsimp only | apply nt_bind
theorem nt_unsafePointer (s d : TypeId) (x : Value) : Nt P (Conv.unsafePointer s d x) := by
  unfold Conv.unsafePointer
  repeat' first | exact trivial | assumption | with_reducible apply nt_seenAt | with_reducible apply nt_variablesAt | with_reducible apply nt_asNumber | with_reducible apply nt_cellsIn | with_reducible apply nt_sizeOf | with_reducible apply nt_underlying | with_reducible apply nt_program | with_reducible apply nt_shape | with_reducible apply nt_newObj | with_reducible apply nt_unsupported | with_reducible apply nt_stuck | with_reducible apply nt_pure | with_reducible apply nt_ite | with_reducible apply nt_bind | with_reducible intro _ | split | dsimp only | apply nt_bind
set_option maxHeartbeats 2000000 in
theorem nt_convert (s d : TypeId) (x : Value) : Nt P (convert s d x) := by
  unfold convert
  repeat' first | exact trivial | assumption | with_reducible apply nt_unsafePointer | with_reducible apply nt_runesToString | with_reducible apply nt_bytesToString | with_reducible apply nt_stringToRunes | with_reducible apply nt_stringToBytes | with_reducible apply nt_intToString | with_reducible apply nt_complexToComplex | with_reducible apply nt_floatToInt | with_reducible apply nt_intToFloat | with_reducible apply nt_intToInt | with_reducible apply nt_floatToFloat | with_reducible apply nt_extract | with_reducible apply nt_slice | with_reducible apply nt_markStringish | with_reducible apply nt_runtimePanic | with_reducible apply nt_underlying | with_reducible apply nt_unsupported | with_reducible apply nt_stuck | with_reducible apply nt_pure | with_reducible apply nt_ite | with_reducible apply nt_bind | with_reducible intro _ | split | dsimp only | apply nt_bind
theorem nt_holdsCells (a : Addr) (n : Nat) : Nt P (Builtin.holdsCells a n) := by
  unfold Builtin.holdsCells
  repeat' first | exact trivial | assumption | with_reducible apply nt_shape | with_reducible apply nt_pure | with_reducible apply nt_ite | with_reducible apply nt_bind | with_reducible intro _ | split | dsimp only | apply nt_bind
theorem nt_mayShare (a b n : Nat) (o : Option Addr) (x : Value) : Nt P (Builtin.mayShare a b n o x) := by
  unfold Builtin.mayShare
  repeat' first | exact trivial | assumption | with_reducible apply nt_holdsCells | with_reducible apply nt_add | with_reducible apply nt_slice | with_reducible apply nt_frozen | with_reducible apply nt_pure | with_reducible apply nt_ite | with_reducible apply nt_bind | with_reducible intro _ | split | dsimp only | apply nt_bind
theorem nt_lenOf (x : Value) : Nt P (Builtin.lenOf x) := by
  unfold Builtin.lenOf
  repeat' first | exact trivial | assumption | with_reducible apply nt_slice | with_reducible apply nt_stuck | with_reducible apply nt_pure | with_reducible apply nt_ite | with_reducible apply nt_bind | with_reducible intro _ | split | dsimp only | apply nt_bind
theorem nt_firstCells (a b : Nat) (x : Value) : Nt P (Builtin.firstCells a b x) := by
  unfold Builtin.firstCells
  repeat' first | exact trivial | assumption | with_reducible apply nt_extract | with_reducible apply nt_slice | with_reducible apply nt_loadCells | with_reducible apply nt_stuck | with_reducible apply nt_pure | with_reducible apply nt_ite | with_reducible apply nt_bind | with_reducible intro _ | split | dsimp only | apply nt_bind
set_option maxHeartbeats 2000000 in
theorem nt_append_ (a : Array TypeId) (t : TypeId) (v : Array Value) : Nt P (Builtin.append_ a t v) := by
  unfold Builtin.append_
  repeat' first | exact trivial | assumption | (with_reducible intro (b : Bool); cases b) | with_reducible apply nt_firstCells | with_reducible apply nt_lenOf | with_reducible apply nt_mayShare | with_reducible apply nt_add | with_reducible apply nt_slice | with_reducible apply nt_askRoom | with_reducible apply nt_asInt | with_reducible apply nt_runtimePanic | with_reducible apply nt_newRow | with_reducible apply nt_storeCells | with_reducible apply nt_sizeOf | with_reducible apply nt_zeroValue | with_reducible apply nt_underlying | with_reducible apply nt_typeInfo | with_reducible apply nt_extern | with_reducible apply nt_noRoom | with_reducible apply nt_choose | with_reducible apply nt_unsupported | with_reducible apply nt_stuck | with_reducible apply nt_pure | with_reducible apply nt_ite | with_reducible apply nt_bind | with_reducible intro _ | split | dsimp only | apply nt_bind
theorem nt_cap_ (a : Array TypeId) (t : TypeId) (v : Array Value) : Nt P (Builtin.cap_ a t v) := by
  unfold Builtin.cap_
  repeat' first | exact trivial | assumption | with_reducible apply nt_slice | with_reducible apply nt_underlying | with_reducible apply nt_getObj | with_reducible apply nt_stuck | with_reducible apply nt_pure | with_reducible apply nt_ite | with_reducible apply nt_bind | with_reducible intro _ | split | dsimp only | apply nt_bind
theorem nt_len_ (a : Array TypeId) (t : TypeId) (v : Array Value) : Nt P (Builtin.len_ a t v) := by
  unfold Builtin.len_
  repeat' first | exact trivial | assumption | with_reducible apply nt_slice | with_reducible apply nt_underlying | with_reducible apply nt_getObj | with_reducible apply nt_stuck | with_reducible apply nt_pure | with_reducible apply nt_ite | with_reducible apply nt_bind | with_reducible intro _ | split | dsimp only | apply nt_bind
theorem nt_copy_ (a : Array TypeId) (t : TypeId) (v : Array Value) : Nt P (Builtin.copy_ a t v) := by
  unfold Builtin.copy_
  repeat' first | exact trivial | assumption | with_reducible apply nt_firstCells | with_reducible apply nt_lenOf | with_reducible apply nt_slice | with_reducible apply nt_storeCells | with_reducible apply nt_sizeOf | with_reducible apply nt_underlying | with_reducible apply nt_stuck | with_reducible apply nt_pure | with_reducible apply nt_ite | with_reducible apply nt_bind | with_reducible intro _ | split | dsimp only | apply nt_bind
theorem nt_min2 (x y : Value) : Nt P (Builtin.min2 x y) := by
  unfold Builtin.min2
  repeat' first | exact trivial | assumption | with_reducible apply nt_stringOp | with_reducible apply nt_asBool | with_reducible apply nt_choose | with_reducible apply nt_unsupported | with_reducible apply nt_stuck | with_reducible apply nt_pure | with_reducible apply nt_ite | with_reducible apply nt_bind | with_reducible intro _ | split | dsimp only | apply nt_bind
theorem nt_max2 (x y : Value) : Nt P (Builtin.max2 x y) := by
  unfold Builtin.max2
  repeat' first | exact trivial | assumption | with_reducible apply nt_stringOp | with_reducible apply nt_asBool | with_reducible apply nt_choose | with_reducible apply nt_unsupported | with_reducible apply nt_stuck | with_reducible apply nt_pure | with_reducible apply nt_ite | with_reducible apply nt_bind | with_reducible intro _ | split | dsimp only | apply nt_bind
theorem nt_foldlM {α β : Type} (f : β -> α -> Sem β) (hf : ∀ b a, Nt P (f b a)) : ∀ (l : List α) (b : β), Nt P (l.foldlM f b)
  | [], b => by rw [List.foldlM_nil]; trivial
  | a :: l, b => by rw [List.foldlM_cons]; exact nt_bind (hf b a) fun c => nt_foldlM f hf l c
theorem nt_min_ (a : Array TypeId) (t : TypeId) (v : Array Value) : Nt P (Builtin.min_ a t v) := by
  unfold Builtin.min_
  split
  . exact trivial
  . exact nt_foldlM _ nt_min2 _ _
theorem nt_max_ (a : Array TypeId) (t : TypeId) (v : Array Value) : Nt P (Builtin.max_ a t v) := by
  unfold Builtin.max_
  split
  . exact trivial
  . exact nt_foldlM _ nt_max2 _ _
theorem nt_unsafeString_ (a : Array TypeId) (t : TypeId) (v : Array Value) : Nt P (Builtin.unsafeString_ a t v) := by
  unfold Builtin.unsafeString_
  rcases v with ⟨_ | ⟨x, _ | ⟨y, _ | ⟨z, l⟩⟩⟩⟩
  . exact trivial
  . exact trivial
  . cases x <;> first | exact trivial | skip
    refine nt_bind (nt_asInt y) fun n => ?_
    repeat' first | exact trivial | assumption | with_reducible apply nt_len_ | with_reducible apply nt_unsafePointer | with_reducible apply nt_loadBytes | with_reducible apply nt_variablesAt | with_reducible apply nt_asInt | with_reducible apply nt_runtimePanic | with_reducible apply nt_elemOf | with_reducible apply nt_freeze | with_reducible apply nt_unsupported | with_reducible apply nt_stuck | with_reducible apply nt_pure | with_reducible apply nt_ite | with_reducible apply nt_bind | with_reducible intro _ | split | dsimp only | apply nt_bind
  . exact trivial
theorem nt_unsafeSliceData_ (a : Array TypeId) (t : TypeId) (v : Array Value) : Nt P (Builtin.unsafeSliceData_ a t v) := by
  unfold Builtin.unsafeSliceData_
  rcases v with ⟨_ | ⟨x, _ | ⟨y, l⟩⟩⟩
  . exact trivial
  . cases x with
    | slice b n c =>
      cases b with
      | none => exact trivial
      | some b =>
        show Nt P (if c ≠ 0 then _ else _)
        repeat' first | exact trivial | assumption | with_reducible apply nt_slice | with_reducible apply nt_viewAt | with_reducible apply nt_elemOf | with_reducible apply nt_newObj | with_reducible apply nt_stuck | with_reducible apply nt_pure | with_reducible apply nt_ite | with_reducible apply nt_bind | with_reducible intro _ | split | dsimp only | apply nt_bind
    | _ => exact trivial
  . exact trivial
theorem nt_ssaWrapNilChk_ (a : Array TypeId) (t : TypeId) (x : Value) (s m : ByteArray) : Nt P (Builtin.ssaWrapNilChk_ a t #[x, .string s, .string m]) := by
  unfold Builtin.ssaWrapNilChk_
  cases x with
  | pointer b =>
    cases b with
    | some b => exact trivial
    | none =>
      refine nt_bind (nt_choose _) fun n => ?_
      repeat' first | exact trivial | assumption | with_reducible apply nt_runtimePanic | with_reducible apply nt_underlying | with_reducible apply nt_typeInfo | with_reducible apply nt_extern | with_reducible apply nt_choose | with_reducible apply nt_unsupported | with_reducible apply nt_stuck | with_reducible apply nt_pure | with_reducible apply nt_ite | with_reducible apply nt_bind | with_reducible intro _ | split | dsimp only | apply nt_bind
  | _ => exact trivial
theorem nt_get (t : TypeId) (x : Place) : Nt P (x.get t) := by
  cases x
  . exact trivial
  . exact nt_loadVar _ _
theorem nt_follow (l : List FieldStep) (t : TypeId) (x : Place) : Nt P (follow l t x) := by
  induction l generalizing t x with
  | nil => exact trivial
  | cons s l ih =>
    unfold follow
    repeat' first | exact trivial | assumption | apply ih | with_reducible apply nt_get | with_reducible apply nt_index | with_reducible apply nt_fieldPlace | with_reducible apply nt_asAddr | with_reducible apply nt_part | with_reducible apply nt_underlying | with_reducible apply nt_stuck | with_reducible apply nt_pure | with_reducible apply nt_ite | with_reducible apply nt_bind | with_reducible intro _ | split | dsimp only | apply nt_bind
theorem nt_receiverAt (t : TypeId) (x : Place) (b : Bool) (w : Option String) : Nt P (receiverAt t x b w) := by
  unfold receiverAt
  repeat' first | exact trivial | assumption | apply nt_ssaWrapNilChk_ | with_reducible apply nt_get | with_reducible apply nt_ssaWrapNilChk_ | with_reducible apply nt_asAddr | with_reducible apply nt_loadVar | with_reducible apply nt_underlying | with_reducible apply nt_stuck | with_reducible apply nt_pure | with_reducible apply nt_ite | with_reducible apply nt_bind | with_reducible intro _ | split | dsimp only | apply nt_bind
theorem nt_followBlind (l : List FieldStep) (t : TypeId) (x : Option Value) : Nt P (followBlind l t x) := by
  induction l generalizing t x with
  | nil => exact trivial
  | cons s l ih =>
    unfold followBlind
    repeat' first | exact trivial | assumption | apply ih | with_reducible apply nt_index | with_reducible apply nt_part | with_reducible apply nt_underlying | with_reducible apply nt_stuck | with_reducible apply nt_pure | with_reducible apply nt_ite | with_reducible apply nt_bind | with_reducible intro _ | split | dsimp only | apply nt_bind
theorem nt_nilAhead (d : Nat) (t : TypeId) (v : Value) (s : String) : Nt P (nilAhead d t v s) := by
  induction d generalizing t v with
  | zero => exact trivial
  | succ d ih =>
    unfold nilAhead
    repeat' first | exact trivial | assumption | apply ih | with_reducible apply nt_followBlind | with_reducible apply nt_underlying | with_reducible apply nt_typeInfo | with_reducible apply nt_stuck | with_reducible apply nt_pure | with_reducible apply nt_ite | with_reducible apply nt_bind | with_reducible intro _ | split | dsimp only | apply nt_bind
end Go.Proofs.YtcpldcojckhapaaGreat
