/- Plain words on bytes and texts, for the builder's contracts; no condition. -/
import Derived.Test.YteegbcjpganobaaDoorNuReads
import Derived.Test.YteegbcjpganobaaDoorChBytes
import Derived.Deep.QuietTactic
import Derived.BigQuiet
import Derived.Deep.RegionHeld3
namespace Go.Proofs.YteegbcjpganobaaDoor.Jt
open Go.RowKit
def nb (c : UInt8) : Int := (c.toNat : Int)
def mkS (l : List UInt8) : ByteArray := ⟨l.toArray⟩
theorem mkS_of {s : ByteArray} {l : List UInt8} (h : s.data.toList = l) : s = mkS l := by subst h; exact (Lib.mk_data s).symm
theorem data_mkS (l : List UInt8) : (mkS l).data.toList = l := rfl
theorem size_mkS (l : List UInt8) : (mkS l).size = l.length := by rw [Lib.size_eq, data_mkS]
theorem size_l (s : ByteArray) : s.size = s.data.toList.length := Lib.size_eq s
theorem data_at {s : ByteArray} {k : Nat} (h : k < s.size) (h2 : k < s.data.toList.length) : s.data.toList[k] = s[k] := Nu.gdat s k h
end Go.Proofs.YteegbcjpganobaaDoor.Jt
