/- What OfClient and OfEntry of the document's layer 6 answers. -/
import Derived.Test.YtapnaknbidmnmaaDoorQaDJ
import Derived.Lib.Bytealg
import Derived.Lib.CutLaws
namespace Go.Proofs.YtapnaknbidmnmaaDoor
open Go.RowKit
set_option maxRecDepth 8000

theorem eqT (s : ByteArray) (x : Bs) : (s.toList == x) = decide (s.data.toList = x) := by
  rw [Lib.toList_data, Bool.eq_iff_iff]; simp

def sIp : Bs := [105, 112]
def sName : Bs := [110, 97, 109, 101]
def sWorld : Bs := [119, 111, 114, 108, 100]
def sAuth : Bs := [97, 117, 116, 104]
def sAny : Bs := [97, 110, 121, 111, 110, 101]

/-- Just an address. -/
def adrB (l : Bs) : Bool := match adr l 4 with
  | none => false
  | some (_, p) => decide (p = l.length)

/-- An id of a client. -/
def clR (sc nm : Bs) : Bool := if sc = sIp then adrB nm else decide (sc = sName) && nmR nm

/-- An id of an entry. -/
def enR (sc nm : Bs) : Bool := if sc = sWorld then decide (nm = sAny) else if sc = sIp then (rngR nm).isSome else if sc = sName then nmR nm else decide (sc = sAuth) && decide (nm = [])

end Go.Proofs.YtapnaknbidmnmaaDoor
