/-
  Package latchref's Shape, some functions: what it answers.
-/
import Derived.Test.YtcpldcojckhapaaR2a
import Derived.Test.YtcpldcojckhapaaR3
import Derived.Test.YtcpldcojckhapaaR3b
import Derived.Test.YtcpldcojckhapaaR4
import Derived.Test.YtcpldcojckhapaaR4b
import Derived.Test.YtcpldcojckhapaaR5
import Derived.Test.YtcpldcojckhapaaR5b
namespace Go.Proofs.Ytcpldcojckhapaa
open Go.RowKit

/-- For every body latchref's Shape answers what the document asks. -/
theorem rshape_any (s : ByteArray) (w : World) : Calls Try.prog 19 #[.string s] w fun e w' => ShapeIs w w' e s := by
  by_cases h : s.size = 0 ∨ 253 < s.size
  · exact rshape_bad s w h
  · have h0' : 0 < s.size := by omega
    have h1' : s.size ≤ 253 := by omega
    by_cases f1 : Pl.byt s 0 = 1
    · exact rshape_1 s w h0' h1' f1
    by_cases f2 : Pl.byt s 0 = 2
    · exact rshape_2 s w h0' h1' f2
    by_cases f3 : Pl.byt s 0 = 3
    · exact rshape_3 s w h0' h1' f3
    by_cases f4 : Pl.byt s 0 = 4
    · exact rshape_4 s w h0' h1' f4
    by_cases f5 : Pl.byt s 0 = 5
    · exact rshape_5 s w h0' h1' f5
    by_cases f6 : Pl.byt s 0 = 6
    · exact rshape_6 s w h0' h1' f6
    by_cases f15 : Pl.byt s 0 = 15
    · exact rshape_15 s w h0' h1' f15
    by_cases f16 : Pl.byt s 0 = 16
    · exact rshape_16 s w h0' h1' f16
    by_cases f22 : Pl.byt s 0 = 22
    · exact rshape_22 s w h0' h1' f22
    by_cases f23 : Pl.byt s 0 = 23
    · exact rshape_23 s w h0' h1' f23
    exact rshape_none s w h0' h1' ⟨f1, f2, f3, f4, f5, f6, f15, f16, f22, f23⟩
end Go.Proofs.Ytcpldcojckhapaa
