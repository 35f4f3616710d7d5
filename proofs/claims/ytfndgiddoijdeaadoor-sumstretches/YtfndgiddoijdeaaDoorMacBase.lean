/- An HMAC as a text. -/
import Derived.Test.YtfndgiddoijdeaaDoorMacMac
namespace Go.Proofs.YtfndgiddoijdeaaDoor
open Go.RowKit

def macS (key s : ByteArray) : ByteArray := strOfNums ((macL (keyP (numsOf key)) (numsOf s)).map fun (x : Nat) => (x : Int))
theorem macL_length (K m : List Nat) : (macL K m).length = 32 := shaL_length _
theorem macL_bytes (K m : List Nat) : Bytes (macL K m) := shaL_bytes _
end Go.Proofs.YtfndgiddoijdeaaDoor
