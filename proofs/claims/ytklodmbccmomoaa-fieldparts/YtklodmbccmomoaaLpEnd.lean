/- FieldParts over a slice as it comes in. -/
import Derived.Test.YtklodmbccmomoaaFr
import Derived.Test.YtklodmbccmomoaaLp
namespace Go.Proofs.Ytklodmbccmomoaa
open Go.RowKit
theorem parts_law (a : Option Addr) (len cap : Nat) (z : List Int) (i s k : Int) (w : World) (h : IsRow .u8 1 w a len cap z) :
    Calls Try.prog 5 #[.slice a len cap, .int .i64 i, .int .i64 s, .int .i64 k] w fun e w' => e = .returned (.bool true) ∧ Below w.heap.size w w' :=
  parts_any a len cap i s k _ w h.rd.1 h.rd.2.1 h.rd.2.2
end Go.Proofs.Ytklodmbccmomoaa
