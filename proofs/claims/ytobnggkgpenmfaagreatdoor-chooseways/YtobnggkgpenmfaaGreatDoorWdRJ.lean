/- May a request be, as the document's letters say. No Go function is walked here. -/
import Derived.Test.YtobnggkgpenmfaaGreatDoorWeCJ
namespace Go.Proofs.YtobnggkgpenmfaaGreatDoor
open Go.RowKit
set_option maxRecDepth 8000

theorem lt4_size (k : Int) : (lt4 k).size ≤ 1000 := by
  unfold lt4
  repeat' split
  all_goals decide

/-- May a request be, its Ops aside? -/
def mayB (k : Int) (s : ByteArray) (dl al : Nat) (ver : Int) (eph seq : Bool) (ses tmo : Int) (wl ol : Nat) (qa qw : Bool) : Bool :=
  !(lt4 k).toList.isEmpty && !(!s.toList.isEmpty && !hasB (lt4 k) 112 || decide (64 < s.size)) && !(decide (0 < dl) && !hasB (lt4 k) 100 || decide (96 < dl)) && !(decide (0 < al) && !hasB (lt4 k) 97 || !qa) && !(decide (ver ≠ 0) && !hasB (lt4 k) 118) && !((eph || seq) && !hasB (lt4 k) 102) && !(decide (ses ≠ 0) && !hasB (lt4 k) 115 || decide (ses < 0) || (k == 8) && decide (ses < 1)) && !(hasB (lt4 k) 116 && (decide (tmo < 1) || decide (1000 < tmo)) || !hasB (lt4 k) 116 && decide (tmo ≠ 0)) && !(decide (0 < wl) && !hasB (lt4 k) 119 || !qw) && (if hasB (lt4 k) 111 then decide (1 ≤ ol) && decide (ol ≤ 8) else decide (ol = 0))
end Go.Proofs.YtobnggkgpenmfaaGreatDoor
