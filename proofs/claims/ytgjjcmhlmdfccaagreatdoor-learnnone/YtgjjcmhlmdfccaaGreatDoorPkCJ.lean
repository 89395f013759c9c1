/- The rows of package packet: rows, rowsOf, namedBy. -/
import Derived.Test.YtgjjcmhlmdfccaaGreatDoorPkBJ
namespace Go.Proofs.YtgjjcmhlmdfccaaGreatDoor
open Go.RowKit
set_option maxRecDepth 8000

/-- A field's bit. -/
def pw (k : Nat) : Int := ((2 ^ k : Nat) : Int)
abbrev fv (n : Nat) : Value := .func (.func n) #[] #[]
/-- The functions of the row of each field. -/
def fRt : Nat → Nat
  | 0 => 54 | 1 => 60 | 2 => 63 | 3 => 68 | 4 => 73 | 5 => 76 | 6 => 79 | 7 => 83 | 8 => 83 | 9 => 90 | 10 => 93 | _ => 98
def fPt : Nat → Nat
  | 0 => 56 | 1 => 61 | 2 => 64 | 3 => 69 | 4 => 74 | 5 => 77 | 6 => 81 | 7 => 84 | 8 => 88 | 9 => 91 | 10 => 94 | _ => 99
def fGt : Nat → Nat
  | 0 => 58 | 1 => 62 | 2 => 66 | 3 => 71 | 4 => 75 | 5 => 78 | 6 => 82 | 7 => 86 | 8 => 89 | 9 => 92 | 10 => 96 | _ => 100
def rowC (j : Nat) : List Value := [Value.int .u16 (pw j), fv (fRt j), fv (fPt j), fv (fGt j)]
def rowsF (l : List Nat) : List Value := l.flatMap rowC

set_option maxHeartbeats 4000000 in
theorem rows_any (w : World) : Calls Tryz.prog 40 #[] w fun r w' => r = .returned (.slice (some ⟨w.heap.size, 0, none⟩) 12 12) ∧ w'.heap[w.heap.size]? = some (.cells (rowsF (List.range 12)).toArray 85 (0, 0)) ∧ Below w.heap.size w w' := by
  go_enter Tryz.func40, Tryz.ntmps40
  go_wp2
  go_ret
  exact ⟨rfl, heap_alloc_new _ _, one_alloc _ _⟩

theorem rowsF_at : ∀ (l : List Nat) (k : Nat) (hk : k < l.length) (i : Nat), i < 4 → (rowsF l)[k * 4 + i]? = (rowC l[k])[i]?
  | [], k, hk, _, _ => by simp at hk
  | j :: l, 0, _, i, hi => by
    show (rowC j ++ rowsF l)[0 * 4 + i]? = _
    rw [List.getElem?_append_left (by simp [rowC]; omega)]
    simp
  | j :: l, k + 1, hk, i, hi => by
    show (rowC j ++ rowsF l)[(k + 1) * 4 + i]? = _
    rw [List.getElem?_append_right (by simp [rowC]; omega), show (k + 1) * 4 + i - (rowC j).length = k * 4 + i by simp [rowC]; omega]
    exact rowsF_at l k (by simpa using hk) i hi
theorem rowsF_app (l : List Nat) (j : Nat) : rowsF (l ++ [j]) = rowsF l ++ rowC j := by simp [rowsF]

/-- The fields among the first k whose bits are on. -/
def flN (names : Int) (k : Nat) : List Nat := (List.range k).filter (fun j => bits .and .u16 names (pw j) != 0)
theorem flN_next (names : Int) (k : Nat) : flN names (k + 1) = if (bits .and .u16 names (pw k) != 0) = true then flN names k ++ [k] else flN names k := by
  unfold flN
  rw [List.range_succ, List.filter_append]
  split
  · next h => simp only [List.filter, h]
  · next h => rw [Bool.not_eq_true] at h; simp only [List.filter, h, List.append_nil]
theorem flN_len (names : Int) (k : Nat) : (flN names k).length ≤ k := by
  unfold flN
  exact Nat.le_trans (List.length_filter_le _ _) (by simp)

theorem Tryz.infoRow15 : (Tryz.prog.info? 85).map (fun i => (i.zero, i.size, i.bytes)) = some (some (.agg #[.int .u16 0, .nilFunc, .nilFunc, .nilFunc]), 4, 32) := by kernel_rfl

theorem app_row15 {w : World} {base m : Nat} {v : Value} {l : List Nat} {j : Nat} (ty : TypeId) (ho : w.ownsRow base 85 4 v l.length (rowsF l)) (hm : w.heap[m]? = some (.cells (rowC j).toArray 85 (0, 0))) (hl : l.length ≤ 1000) (hb : base ≤ w.heap.size) :
    ∃ v' w', (Builtin.append_ #[80, 80] ty #[v, .slice (some ⟨m, 0, none⟩) 1 1]).run Tryz.prog w = .ok v' w' ∧ w'.ownsRow base 85 4 v' (l ++ [j]).length (rowsF (l ++ [j])) ∧ w.grownBy w' v.ownBlock := by
  obtain ⟨i, hi, hz, hs, hby⟩ := info_parts Tryz.infoRow15
  obtain ⟨v', w', h1, h2, h3, _⟩ := run_append_own (P := Tryz.prog) w base 80 ty 85 i _ 4 32 Tryz.underlying80 hi hz hs hby rfl (by decide) v l.length (rowsF l) ho ⟨m, 0, none⟩ 1 1 (rowC j) rfl (fun k u hk => by
    rw [Addr.add_lit, Nat.zero_add, cell_of_row w m k _ _ _ hm, ← Array.getElem?_toList]
    exact hk) (by intro u hu; simp only [rowC, List.mem_cons, List.not_mem_nil, or_false] at hu; rcases hu with rfl | rfl | rfl | rfl <;> rfl) (by unfold maxLen; omega) (by omega) hb
  refine ⟨v', w', h1, ?_, h3⟩
  rw [List.length_append, rowsF_app]
  exact h2

/-- At the operation: append, where its run is known. -/
theorem app_at {P : Program} {w : World} {ops : Array Oper} {rest : List Oper} {o : Oper} {a : Act} {Q : Exit → Act → World → Prop} (hgd : o.guard = none) (s x : Operand) (t : TypeId)
    (ho : o.op = .call { callee := .builtin .append, args := #[s, x], argTypes := #[t, t] }) (v u : Value) (hs : a.eval s = v) (hx : a.eval x = u) {v' : Value} {w' : World}
    (hr : (Builtin.append_ #[t, t] o.type #[v, u]).run P w = .ok v' w') (h : wpList P ops Q rest (a.put o.dst v') w') : wpList P ops Q (o :: rest) a w := by
  refine wpList_plain hgd fun K hK => ?_
  unfold Oper.wp execOp
  simp only [ho, resolve, invoke, builtin, Sem.run_bind, Sem.run_pure, Result.andThen_ok, List.map_toArray, List.map_cons, List.map_nil, hs, hx, hr]
  exact hK _ _ h

def rgB (j : Nat) (p : PkD) : Bool := match j with
  | 0 => connB p.cb p.ct | 1 => connB p.lb p.lt | 2 => decide (0 ≤ p.place) | 3 => epB p | 4 => decide (p.cur ≤ 2147483647) | 5 => zxB p | 6 => zxOk p.pe p.pn | 7 => true | 8 => true | 9 => txB15 p | 10 => decide (1 ≤ p.bys.length ∧ p.bys.length ≤ 4096) | _ => decide (1 ≤ p.ses)

theorem right_any (j : Nat) (p : PkD) (tc : List Value) (bv : Value) (w : World) (hg : p.good) (hs : SeesPk w tc bv p) (hn : Nam w) :
    Calls Tryz.prog (fRt j) #[.agg (pkL p tc bv).toArray] w fun r w' => r = .returned (.bool (rgB j p)) ∧ Below w.heap.size w w' := by
  match j with
  | 0 => exact rtConn p tc bv w
  | 1 => exact rtLead p tc bv w
  | 2 => exact rtPlace p tc bv w
  | 3 => exact rtEpoch p tc bv w
  | 4 => exact rtCur p tc bv w
  | 5 => exact rtZxid p tc bv w hg
  | 6 => exact rtPrev p tc bv w hg
  | 7 => exact rtAny p tc bv w
  | 8 => exact rtAny p tc bv w
  | 9 => exact rtTxn p tc bv w hg hs.tx hn
  | 10 => exact rtBytes p tc bv w hs.bys hs.tx.len
  | _ + 11 => exact rtSes p tc bv w hs.tx.len
end Go.Proofs.YtgjjcmhlmdfccaaGreatDoor
