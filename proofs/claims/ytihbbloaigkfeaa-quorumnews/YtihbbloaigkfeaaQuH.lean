/- What an Acks' Of answers. -/
import Derived.Test.YtihbbloaigkfeaaQuG
import Derived.Laws.ResultCell
namespace Go.Proofs.Ytihbbloaigkfeaa
open Go.RowKit Go.Shelf
set_option maxRecDepth 8000

theorem zx_ret {fn : Func} {p u : Tmp} (h : fn.results = #[.cell p 52, .tmp u]) (tmps : Array Value) (w : World) (b : Nat) (e m : Int) (x : Value) (t : TypeId) (fr : Nat × Nat) (hp : tmps.getD p undef = .pointer (some ⟨b, 0, none⟩)) (hu : tmps.getD u undef = x) (hrow : w.heap[b]? = some (.cells #[.int .u32 e, .int .u32 m] t fr)) : (results fn tmps).run Try.prog w = .ok (.tuple #[zx e m, x]) w := by
  rw [results_cell_tmp h, hp, hu]
  have hld := run_loadVar_row (P := Try.prog) w b t 52 #[.int .u32 e, .int .u32 m] fr _ hrow Try.underlying52 rfl (by kernel_rfl)
  simp only [asAddr, Sem.run_pure, Result.andThen_ok, hld]

end Go.Proofs.Ytihbbloaigkfeaa
