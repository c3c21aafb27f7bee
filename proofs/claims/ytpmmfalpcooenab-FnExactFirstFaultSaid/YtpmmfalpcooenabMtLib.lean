/- The law's marks of texts: the letter m and a number. -/
import Derived.Test.YtpmmfalpcooenabDcLib
namespace Go.Proofs.Ytpmmfalpcooenab.Mt
open Go.RowKit Ba Go.Lib Dc

def mkT (n : Int) : ByteArray := ⟨(109 :: itoa n).toArray⟩
theorem cat109 (L : List UInt8) : (⟨#[109]⟩ ++ ⟨L.toArray⟩ : ByteArray) = ⟨(109 :: L).toArray⟩ := by
  apply ByteArray.ext
  simp
theorem cat_one (c : UInt8) (L : List UInt8) : (⟨([c] : List UInt8).toArray⟩ ++ ⟨L.toArray⟩ : ByteArray) = ⟨(c :: L).toArray⟩ := by
  apply ByteArray.ext
  simp
end Go.Proofs.Ytpmmfalpcooenab.Mt
