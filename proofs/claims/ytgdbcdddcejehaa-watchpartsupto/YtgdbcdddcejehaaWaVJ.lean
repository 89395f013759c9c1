/- What WatchOnce's inner loop carries: what Fire told, what is left. -/
import Derived.Test.YtgdbcdddcejehaaWaTJ
namespace Go.Proofs.Ytgdbcdddcejehaa
open Go.RowKit Go.Shelf
set_option maxRecDepth 8000
set_option linter.unusedSimpArgs false

theorem fiFlat_at (c : ChT) : ∀ (l : List WaT) (i : Nat) (x : WaT), l[i]? = some x → (fiFlat c l)[i * 5]? = some (.int .i64 x.1) ∧ (fiFlat c l)[i * 5 + 1]? = some (.int .i8 x.2.1) ∧ (fiFlat c l)[i * 5 + 2]? = some (.string x.2.2) ∧ (fiFlat c l)[i * 5 + 3]? = some (.int .i8 c.1) ∧ (fiFlat c l)[i * 5 + 4]? = some (.string c.2)
  | y :: r, 0, x, h => by simp at h; subst h; exact ⟨rfl, rfl, rfl, rfl, rfl⟩
  | y :: r, i + 1, x, h => by
    have := fiFlat_at c r i x (by simpa using h)
    rw [show (i + 1) * 5 = i * 5 + 1 + 1 + 1 + 1 + 1 by omega]
    exact this

/-- What Fire told, in memory. -/
theorem fi_cells {w : World} {base : Nat} {u : Value} {c : ChT} {T : List WaT} (h : w.ownsRow base 44 5 u T.length (fiFlat c T)) {i : Nat} {x : WaT} (hx : T[i]? = some x) :
    ∃ g cap, u = .slice (some ⟨g, 0, none⟩) T.length cap ∧ g < w.heap.size ∧ w.cell? ⟨g, i * 5, none⟩ = some (.int .i64 x.1) ∧ w.cell? ⟨g, i * 5 + 1, none⟩ = some (.int .i8 x.2.1) ∧ w.cell? ⟨g, i * 5 + 2, none⟩ = some (.string x.2.2) ∧ w.cell? ⟨g, i * 5 + 3, none⟩ = some (.int .i8 c.1) ∧ w.cell? ⟨g, i * 5 + 4, none⟩ = some (.string c.2) := by
  have hi : i < T.length := (List.getElem?_eq_some_iff.1 hx).1
  obtain ⟨_, ⟨rfl, h0⟩ | ⟨g, cap, cur, rfl, _, a3, a4, _, _, a7⟩⟩ := h
  · omega
  · obtain ⟨e1, e2, e3, e4, e5⟩ := fiFlat_at c T i x hx
    rw [← a7, List.getElem?_take, if_pos (by omega)] at e1 e2 e3 e4 e5
    have hc : ∀ j v, cur.toList[j]? = some v → w.cell? ⟨g, j, none⟩ = some v := fun j v hj => by rw [cell_of_row w g _ _ _ _ a3, ← Array.getElem?_toList]; exact hj
    exact ⟨g, cap, rfl, lt_of_block a3, hc _ _ e1, hc _ _ e2, hc _ _ e3, hc _ _ e4, hc _ _ e5⟩

theorem filt_at {p : WaT → Bool} {l : List WaT} {k : Nat} {x : WaT} (hx : l[k]? = some x) (hp : p x = true) : (l.filter p)[((l.take k).filter p).length]? = some x := by
  have e : l = l.take k ++ x :: l.drop (k + 1) := by rw [← drop_at hx, List.take_append_drop]
  have e2 : l.filter p = (l.take k).filter p ++ x :: (l.drop (k + 1)).filter p := by
    conv => lhs; rw [e]
    rw [List.filter_append, List.filter_cons_of_pos hp]
  rw [e2]
  simp

/-- Behind Fire and IsChange, ahead of the inner loop. -/
structure Mid (w V V3 : World) (b m : Nat) (v' tv u : Value) (c : ChT) (l : List WaT) (bs : Nat) (o : Obj) : Prop where
  bo : Bo V3 b m v' (l.filter (sB c)) (l.filter (sB c))
  ws : Wats l
  low : ∀ k, Ft b m v' k → w.heap.size ≤ k
  th : V3.ownsRow w.heap.size 30 3 tv l.length (waFlat l)
  told : V3.ownsRow V.heap.size 44 5 u (l.filter (mB c)).length (fiFlat c (l.filter (mB c)))
  box : V3.heap[bs]? = some o
  bel : Below w.heap.size w V3
theorem Mid.below {w V V3 V4 : World} {b m : Nat} {v' tv u : Value} {c : ChT} {l : List WaT} {bs : Nat} {o : Obj} (h : Mid w V V3 b m v' tv u c l bs o) (hB : Below V3.heap.size V3 V4) : Mid w V V4 b m v' tv u c l bs o :=
  ⟨h.bo.below hB, h.ws, h.low, rowK h.th (Below.kept hB) (fun k hk => by have := (h.th.lt k hk).2; omega), rowK h.told (Below.kept hB) (fun k hk => by have := (h.told.lt k hk).2; omega), box_later h.box hB, h.bel.trans (hB.mono h.bel.size)⟩
theorem Mid.start {w V V2 : World} {b m : Nat} {v v' tv u : Value} {c : ChT} {l : List WaT} {bs : Nat} {cs : Array Value} {T : TypeId} (h : OnI w V b m v tv l) (hbx : V.heap[bs]? = some (.cells cs T (0, 0))) (h1 : T ≠ 51) (h2 : T ≠ 30) (hbo : Bo V2 b m v' (l.filter (sB c)) (l.filter (sB c))) (hk : Kept V V2 (Ft b m v)) (hv : v'.ownBlock = v.ownBlock) (ht : V2.ownsRow V.heap.size 44 5 u (l.filter (mB c)).length (fiFlat c (l.filter (mB c)))) : Mid w V V2 b m v' tv u c l bs (.cells cs T (0, 0)) := by
  obtain ⟨t1, t2, t3, t4⟩ := h.call hk (.inl hv)
  exact ⟨hbo, h.ws, t2, t1, ht, hk.heap hbx (h.bo.notBox hbx h1 h2), t4⟩
/-- Behind the inner loop. -/
theorem Mid.done {w V V3 wr : World} {b m : Nat} {v' tv u vl : Value} {c : ChT} {l : List WaT} {bs : Nat} {o : Obj} (h : Mid w V V3 b m v' tv u c l bs o) (hB : Below V3.heap.size V3 wr) (hl : wr.ownsRow V3.heap.size 30 3 vl (l.filter (sB c)).length (waFlat (l.filter (sB c)))) : OnI w wr b m v' vl (l.filter (sB c)) := by
  refine ⟨h.bo.below hB, h.ws.filter _, h.low, row_base hl h.bel.size, fun k hk hv => ?_, h.bel.trans (hB.mono h.bel.size)⟩
  have := (hl.lt k hk).1
  have := h.bo.lt (.inr (.inr hv))
  omega

/-- One more left. -/
theorem left_app {w0 w : World} {vl : Value} {L : List WaT} {x : WaT} (hl : w.ownsRow w0.heap.size 30 3 vl L.length (waFlat L)) (hB : Below w0.heap.size w0 w) (hle : L.length ≤ 1000) :
    ∃ ao n c w3, (∀ ty, (Builtin.append_ #[27, 27] ty #[vl, .slice (some ⟨w.heap.size, 0, none⟩) 1 1]).run Try.prog (w.alloc (.cells (waCs x) 30)) = .ok (.slice ao n c) w3) ∧ w3.ownsRow w0.heap.size 30 3 (.slice ao n c) (L ++ [x]).length (waFlat (L ++ [x])) ∧ Below w0.heap.size w0 w3 := by
  have B3 : Below w.heap.size w (w.alloc (.cells (waCs x) 30)) := (Below.refl _ w).alloc (Nat.le_refl _) _
  have hl3 := rowK hl (Below.kept B3) (fun k hk => by have := (hl.lt k hk).2; omega)
  obtain ⟨vn, w3, hr, ho3, hk3, hnr⟩ := app_wa (x := x) hl3 (heap_alloc_new w _) (by omega) (Nat.le_trans hB.size B3.size)
  obtain ⟨ao, n, c, rfl⟩ : ∃ a n c, vn = .slice a n c := by
    obtain ⟨a, c, e⟩ := rowS ho3
    exact ⟨a, _, c, e⟩
  refine ⟨ao, n, c, w3, hr, ho3, ?_⟩
  refine ⟨hk3.os.trans (B3.os.trans hB.os), hk3.tape.trans (B3.tape.trans hB.tape), hk3.output.trans (B3.output.trans hB.output), Nat.le_trans (Nat.le_trans hB.size B3.size) hk3.size, fun k hk' => ?_⟩
  rw [hk3.block k (by have := hB.size; have := B3.size; omega) (fun hv => by have := (hl.lt k hv).1; omega), B3.block k (by have := hB.size; omega), hB.block k hk']

end Go.Proofs.Ytgdbcdddcejehaa
