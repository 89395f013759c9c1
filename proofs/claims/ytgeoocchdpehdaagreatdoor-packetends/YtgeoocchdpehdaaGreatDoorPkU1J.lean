import Derived.Test.YtgeoocchdpehdaaGreatDoorChCJ
import Derived.Test.YtgeoocchdpehdaaGreatDoorEqHJ
namespace Go.Proofs.YtgeoocchdpehdaaGreatDoor
open Go.RowKit
set_option maxRecDepth 8000

def dA (e a b c d x5 x6 hp : Bool) : Bool := e || !a || !b || !c || !d || x5 || (x6 && !hp)
def dB (y1 y2 y3 y4 hu cn ho fi hf : Bool) : Bool := y1 || y2 || y3 || (y4 && !hu) || (cn && !ho) || (fi && !hf)
def dC (f1 f2 s3 f4 f5 x6 : Bool) : Bool := (f1 != f2) || s3 || (f4 != f5) || x6
def dD (k11 k12 z : Bool) : Bool := (k11 || k12) && z
def dE (ok n13 ab k13 n0 n1 : Bool) : Bool := !ok || (n13 && !ab) || (k13 && (n0 || n1))
def docB (p : PkD) (tz : Bool) : Bool :=
  !dA ((lt15 p.kind).toList == []) (rConn p.cb p.ct (hasB (lt15 p.kind) 99)) (rConn p.lb p.lt (hasB (lt15 p.kind) 108)) (rZx p.ze p.zn (hasB (lt15 p.kind) 122)) (rZx p.pe p.pn (hasB (lt15 p.kind) 118)) (decide (p.place < 0)) (decide (0 < p.place)) (hasB (lt15 p.kind) 112) &&
  !dB (decide (p.ep < (if hasB (lt15 p.kind) 101 = true then (if p.kind = 1 then 0 else 1) else 0))) (decide ((if hasB (lt15 p.kind) 101 = true then 2147483647 else 0) < p.ep)) (decide (2147483647 < p.cur)) (decide (0 < p.cur)) (hasB (lt15 p.kind) 117) p.cnt (hasB (lt15 p.kind) 111) p.fin (hasB (lt15 p.kind) 102) &&
  !dC (hasB (lt15 p.kind) 115) (p.ses != 0) (decide (p.ses < 0)) (hasB (lt15 p.kind) 98) (decide (0 < p.bys.length)) (decide (4096 < p.bys.length)) &&
  !dD (p.kind == 11) (p.kind == 12) (p.zn == 0) &&
  (if hasB (lt15 p.kind) 116 = true then !dE (txOk p.tx) (p.kind != 13) (decide (0 < zcmp p.tx.ep p.tx.n p.pe p.pn)) (p.kind == 13) (p.tx.n != 0) (decide (p.tx.num < 1)) else tz)

theorem eqTxn0 (cs : List Value) (t : TxD) (z : Bool) (hz : z = true ↔ t = txN) (w : World) (hcs : SeesTx w cs t) :
    Calls Tryz.prog 23 #[.agg cs.toArray, .agg zTx] w fun r w' => r = .returned (.bool z) ∧ Below w.heap.size w w' := by
  cases z with
  | true =>
    obtain rfl := hz.1 rfl
    exact eqTxn_same cs zTx.toList txN w hcs (sees_txN w)
  | false =>
    refine (eqTxn_sound t txN cs zTx.toList w hcs (sees_txN w)).mono ?_
    rintro _ w' ⟨b, rfl, hb, hl⟩
    cases b with
    | true => have := hz.2 (hb rfl); cases this
    | false => exact ⟨rfl, hl⟩
end Go.Proofs.YtgeoocchdpehdaaGreatDoor
