/- The cells of a transaction, as they must be; a list of one of them. -/
import Derived.Test.YtgjjcmhlmdfccaaGreatDoorProg
import Derived.Test.YtgjjcmhlmdfccaaGreatDoorChk2J
import Derived.Test.YtgjjcmhlmdfccaaGreatDoorLnDJ
import Derived.Deep.AppendLies
import Derived.CallsIn
import Derived.OrdersIn
import Derived.Deep.RegionHeld
namespace Go.Proofs.YtgjjcmhlmdfccaaGreatDoor
open Go.RowKit
set_option maxRecDepth 8000

/-- The cells of a transaction. -/
def TxForm (x : List Value) : Prop := ∃ (t0 t1 t2 t3 t4 : Int) (x0 : Int) (x1 : ByteArray) (x2 : Option Addr) (x3 x4 : Nat) (x5 : Option Addr) (x6 x7 : Nat) (x8 : Int) (x9 x10 : Bool) (x11 x12 : Int) (x13 : Option Addr) (x14 x15 : Nat) (x16 : Option Addr) (x17 x18 : Nat), x = [.int .u32 t0, .int .u32 t1, .int .i8 t2, .int .u32 t3, .int .i64 t4, .int .i8 x0, .string x1, .slice x2 x3 x4, .slice x5 x6 x7, .int .i32 x8, .bool x9, .bool x10, .int .i64 x11, .int .i32 x12, .slice x13 x14 x15, .slice x16 x17 x18]

theorem TxForm.len {x : List Value} (h : TxForm x) : x.length = 16 := by
  obtain ⟨_, _, _, _, _, _, _, _, _, _, _, _, _, _, _, _, _, _, _, _, _, _, _, _, rfl⟩ := h
  rfl

theorem TxForm.one {x : List Value} (h : TxForm x) : x.toArray.all (·.oneCell') = true := by
  obtain ⟨_, _, _, _, _, _, _, _, _, _, _, _, _, _, _, _, _, _, _, _, _, _, _, _, rfl⟩ := h
  simp [Value.oneCell']

theorem tx16 : (Tryz.prog.info? 37).map (·.size) = some 16 := by kernel_rfl

theorem tx_form {w : World} {rc : List Value} {t : TxD} (h : SeesRq w rc t.rq) : TxForm (txHead t ++ rc) := by
  obtain ⟨q0, q1, d0, d1, d2, a0, a1, a2, q4, q5, q6, q7, q8, e0, e1, e2, o0, o1, o2, rfl⟩ := rq_forms h
  exact ⟨_, _, _, _, _, _, _, _, _, _, _, _, _, _, _, _, _, _, _, _, _, _, _, _, rfl⟩

theorem bsl16 {x : List Value} (h : TxForm x) (w : World) : (Instr.buildSlice 47 1 #[(0, .agg x.toArray)]).run Tryz.prog w = .ok (.slice (some ⟨w.heap.size, 0, none⟩) 1 1) (w.alloc (.cells x.toArray 37)) := by
  obtain ⟨_, _, _, _, _, _, _, _, _, _, _, _, _, _, _, _, _, _, _, _, _, _, _, _, rfl⟩ := h
  kernel_rfl
end Go.Proofs.YtgjjcmhlmdfccaaGreatDoor

/- A Learner's goOn; a Learner that has gathered one transaction more. -/
namespace Go.Proofs.YtgjjcmhlmdfccaaGreatDoor
open Go.RowKit
set_option maxRecDepth 8000
set_option linter.unusedSimpArgs false

/-- A store into the Learner's own row. -/
theorem LnS.set {p B : Nat} {W W' : World} {ep ep' : Int} {hi hi' nx nx' ba ba' v : Value} {es : List (List Value)} {l : List TxD} {dn dn' : Bool} (h : LnS p B W ep hi nx ba v es l dn) (hk : Kept W W' (· = p)) (ha : LnAt W' p ep' hi' nx' ba' v dn') : LnS p B W' ep' hi' nx' ba' v es l dn' := by
  have hp := h.pB
  obtain ⟨h1, h2⟩ := full_kept h.full h.own hk (fun q hq => .inl (by omega))
  exact ⟨ha, h2, h1, h.pB, Nat.le_trans h.bW hk.size⟩

theorem goOn_any {p B : Nat} {w : World} {ep : Int} {hi nx ba v : Value} {es : List (List Value)} {l : List TxD} {dn : Bool} (h : LnS p B w ep hi nx ba v es l dn) (f : Nat) (a b : Array Value) :
    Calls Tryz.prog 46 #[.pointer (some ⟨p, 0, none⟩), .func (.func f) a b] w fun e w' => e = .returned (.tuple #[]) ∧ LnS p B w' ep (.slice none 0 0) (.func (.func f) a b) ba v es l dn ∧ Kept w w' (· = p) := by
  obtain ⟨_, c1, c2, _, _, _⟩ := h.cells
  have f1 := frozen_of_row _ _ 1 _ _ h.at_
  have f2 := frozen_of_row _ _ 2 _ _ h.at_
  have hsf := store_fnL
  have k2 : Kept w ((w.setCell ⟨p, 2, none⟩ (.func (.func f) a b)).setCell ⟨p, 1, none⟩ (.slice none 0 0)) (· = p) := ((Kept.refl w (· = p)).setCell ⟨p, 2, none⟩ _ (fun _ => rfl)).setCell ⟨p, 1, none⟩ _ (fun _ => rfl)
  have HR : Hid (LnS p B ((w.setCell ⟨p, 2, none⟩ (.func (.func f) a b)).setCell ⟨p, 1, none⟩ (.slice none 0 0)) ep (.slice none 0 0) (.func (.func f) a b) ba v es l dn ∧ Kept w ((w.setCell ⟨p, 2, none⟩ (.func (.func f) a b)).setCell ⟨p, 1, none⟩ (.slice none 0 0)) (· = p)) := ⟨h.set k2 (by unfold LnAt; rw [heap_setR _ (heap_setR _ h.at_)]; rfl), k2⟩
  have hl := lt_of_block h.at_
  clear h k2
  go_enter Tryz.func46, Tryz.ntmps46
  go_wp2
  all_goals ((first | go_end0 | refine bodyPost_ret (results_none rfl _ _ _) rfl ?_); exact ⟨rfl, HR.out⟩)

/-- One transaction more: the clone lies in new blocks, the append and the store are known. -/
theorem LnS.grow {p B : Nat} {V V5 : World} {ep : Int} {hi nx ba v : Value} {es : List (List Value)} {l : List TxD} {dn : Bool} (h : LnS p B V ep hi nx ba v es l dn) (t : TxD) (ds : List Value) (b5 : Below V.heap.size V V5) (hr5 : RqIn V5 (fun q => V.heap.size ≤ q ∧ q < V5.heap.size) ds t.rq) (hl : l.length ≤ 1000000) :
    ∃ v' w6, (Builtin.append_ #[47, 47] 47 #[v, .slice (some ⟨V5.heap.size, 0, none⟩) 1 1]).run Tryz.prog (V5.alloc (.cells (txHead t ++ ds).toArray 37)) = .ok v' w6 ∧
      w6.cell? ⟨p, 4, none⟩ = some v ∧ w6.frozen? ⟨p, 4, none⟩ = false ∧ LnS p B (w6.setCell ⟨p, 4, none⟩ v') ep hi nx ba v' (es ++ [txHead t ++ ds]) (l ++ [t]) dn ∧
      Kept V w6 (fun k => v.ownBlock = some k) ∧ Kept V (w6.setCell ⟨p, 4, none⟩ v') (fun k => v.ownBlock = some k ∨ k = p) ∧ (∃ b c, v' = .slice b (l.length + 1) c) ∧ (∀ k, v.ownBlock = some k → B ≤ k ∧ k < V.heap.size) := by
  obtain ⟨i0, hi', hz0, hz1, hz2⟩ := info_parts Tryz.infoTxF
  have hs5 := b5.size
  have h5 := h.later b5
  have hf := tx_form hr5.sees
  have hlen := hf.len
  have hBW := h.bW
  have hpB := h.pB
  obtain ⟨g1, c1, w6, hr6, ow6, gr6, li6, lt6⟩ := run_append_lies (P := Tryz.prog) (V5.alloc (.cells (txHead t ++ ds).toArray 37)) 47 47 B 37 i0 _ 16 168 Tryz.underlying47 hi' hz0 hz1 hz2 rfl (by decide) v l.length es.flatten (h5.own.alloc _) ⟨V5.heap.size, 0, none⟩ 1 1 (txHead t ++ ds) (by rw [hlen]) (fun j u hj => by rw [addrAdd, Nat.zero_add, cell_of_row _ _ _ _ _ _ (heap_alloc_new _ _), List.getElem?_toArray]; exact hj) (fun u hu => by
      have := hf.one
      rw [Array.all_eq_true_iff_forall_mem] at this
      exact this u (by simpa using hu)) (by decide) (by unfold maxLen; omega) (by omega) (by simp; omega) (V5.heap.size + 1) (by simp)
  have hvo : ∀ q, v.ownBlock = some q → B ≤ q ∧ q < V.heap.size := fun q e => h.own.lt q e
  have K5 : Kept V5 w6 (fun q => v.ownBlock = some q) := ((Kept.refl V5 (fun q => v.ownBlock = some q)).alloc _).grown gr6 (fun q _ h => h)
  have K : Kept V w6 (fun q => v.ownBlock = some q) := ((Below.kept b5).mono (fun q h1 h2 => by omega)).trans K5 (fun q _ h => h)
  have hb6 := K.heap h.at_ (fun e => by have := hvo p e; omega)
  have hs6 := K.size
  have hsz : (w6.setCell ⟨p, 4, none⟩ (.slice (some ⟨g1, 0, none⟩) (l.length + 1) c1)).heap.size = w6.heap.size := by simp [World.setCell]
  have hFE := full_round h.full h.bW hvo b5 hr5 gr6 (v' := .slice (some ⟨g1, 0, none⟩) (l.length + 1) c1) (by simpa [Value.ownBlock, eq_comm] using li6)
  have how : w6.ownsRow B 37 16 (.slice (some ⟨g1, 0, none⟩) (l.length + 1) c1) (l ++ [t]).length (es ++ [txHead t ++ ds]).flatten := by
    rw [List.flatten_append, List.length_append]
    simpa using ow6
  have ks : Kept w6 (w6.setCell ⟨p, 4, none⟩ (.slice (some ⟨g1, 0, none⟩) (l.length + 1) c1)) (fun q => q = p) := (Kept.refl _ _).setCell _ _ (fun _ => rfl)
  obtain ⟨hf7, ho7⟩ := full_kept hFE how ks (fun q hq => .inl (by omega))
  refine ⟨_, w6, hr6, cell_of_row _ _ _ _ _ _ hb6, frozen_of_row _ _ _ _ _ hb6, ⟨by unfold LnAt; rw [heap_setR _ hb6]; rfl, ho7, hf7, h.pB, by omega⟩, K, (K.mono (S' := fun k => v.ownBlock = some k ∨ k = p) (fun q _ e => .inl e)).trans ks (fun q _ e => .inr e), ⟨_, _, rfl⟩, hvo⟩
end Go.Proofs.YtgjjcmhlmdfccaaGreatDoor

/- A region that draws its order, walked in the round of a range over a function as it is outside of one: where it defers nothing. No Go function is walked here. -/
namespace Go.Proofs.YtgjjcmhlmdfccaaGreatDoor
set_option maxRecDepth 8000

/-- An operation whose run is known. -/
theorem wp_runs {P : Program} {o : Oper} {a : Act} {w w' : World} {K : Act → World → Prop} {Q : Exit → Act → World → Prop} {v : Value} (h : (execOp a.eval o).run P w = .ok (.value v) w') (hK : K (a.put o.dst v) w') : Oper.wp P o a w K Q := by
  unfold Oper.wp
  rw [h]
  exact hK

theorem wp_appR {P : Program} {o : Oper} {a : Act} {w : World} {K : Act → World → Prop} {Q : Exit → Act → World → Prop} (s x : Operand) (t : TypeId) (hop : o.op = Op.call { callee := Callee.builtin Builtin.append, args := #[s, x], argTypes := #[t, t] }) (v u v' : Value) (w' : World) (hs : a.eval s = v) (hx : a.eval x = u) (hrun : (Builtin.append_ #[t, t] o.type #[v, u]).run P w = .ok v' w') (h : K (a.put o.dst v') w') : Oper.wp P o a w K Q := by
  unfold Oper.wp
  simp [execOp, hop, resolve, invoke, builtin, hs, hx, hrun, Result.andThen]
  exact h

theorem wp_bsl1 {P : Program} {o : Oper} {a : Act} {w : World} {K : Act → World → Prop} {Q : Exit → Act → World → Prop} (t : TypeId) (x : Operand) (hop : o.op = Op.buildSlice t 1 #[(0, x)]) (u v' : Value) (w' : World) (hx : a.eval x = u) (hrun : (Instr.buildSlice t 1 #[(0, u)]).run P w = .ok v' w') (h : K (a.put o.dst v') w') : Oper.wp P o a w K Q := by
  refine wp_runs (v := v') (w' := w') ?_ h
  have e : (#[(0, x)] : Array (Nat × Operand)).map (fun (i, x) => (i, a.eval x)) = #[(0, u)] := by simp [hx]
  simp only [execOp, hop, e, Sem.run_bind, hrun, Result.andThen_ok, Sem.run_pure]
end Go.Proofs.YtgjjcmhlmdfccaaGreatDoor
