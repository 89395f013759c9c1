/- What WatchOnce's walk carries from round to round: the board and the list beside it. -/
import Derived.Test.YtkcapiblicfboaaGreatDoorPaGJ
import Derived.Test.YtkcapiblicfboaaGreatDoorWaRJ
import Derived.Test.YtkcapiblicfboaaGreatDoorWaSJ
namespace Go.Proofs.YtkcapiblicfboaaGreatDoor
open Go.RowKit Go.Shelf
set_option maxRecDepth 8000
set_option linter.unusedSimpArgs false

/-- Is a watch told of a change? Is it left? -/
def mB (c : ChT) (x : WaT) : Bool := chOk c && metB c x
def sB (c : ChT) (x : WaT) : Bool := !(mB c x && goB x)

theorem mB_no {c : ChT} (h : chOk c = false) (l : List WaT) : l.filter (mB c) = [] := List.filter_eq_nil_iff.2 (fun x _ => by simp [mB, h])
theorem sB_no {c : ChT} (h : chOk c = false) (l : List WaT) : l.filter (sB c) = l := List.filter_eq_self.2 (fun x _ => by simp [sB, mB, h])
theorem mB_yes {c : ChT} (h : chOk c = true) : mB c = metB c := by funext x; simp [mB, h]
theorem sB_yes {c : ChT} (h : chOk c = true) : sB c = stayB c := by funext x; simp [sB, stayB, mB, h]

/-- The watches of a board. -/
structure Wats (l : List WaT) : Prop where
  nd : l.Nodup
  le : l.length ≤ 64
  ok : ∀ x ∈ l, waOk x = true ∧ x.2.2.size ≤ 4294967295
theorem waOk_kind {x : WaT} (h : waOk x = true) : x.2.1 = 1 ∨ x.2.1 = 2 ∨ x.2.1 = 3 ∨ x.2.1 = 4 := by
  unfold waOk at h
  simp only [Bool.and_eq_true, decide_eq_true_eq] at h
  omega
theorem Wats.kind {l : List WaT} (h : Wats l) : ∀ x ∈ l, x.2.1 = 1 ∨ x.2.1 = 2 ∨ x.2.1 = 3 ∨ x.2.1 = 4 := fun x hx => waOk_kind (h.ok x hx).1
theorem Wats.filter {l : List WaT} (h : Wats l) (p : WaT → Bool) : Wats (l.filter p) :=
  ⟨h.nd.filter p, Nat.le_trans (List.length_filter_le _ _) h.le, fun x hx => h.ok x (List.mem_filter.1 hx).1⟩
theorem Wats.add {l : List WaT} (h : Wats l) {x : WaT} (hx : x ∉ l) (hl : l.length < 64) (ho : waOk x = true) (hs : x.2.2.size ≤ 4294967295) : Wats (l ++ [x]) :=
  ⟨by
    rw [List.nodup_append]
    exact ⟨h.nd, by simp, fun a ha b hb => by simp at hb; subst hb; exact fun e => hx (e ▸ ha)⟩, by simp; omega, fun y hy => by
    rcases List.mem_append.1 hy with hy | hy
    · exact h.ok y hy
    · simp at hy; subst hy; exact ⟨ho, hs⟩⟩
theorem Wats.nil : Wats [] := ⟨by simp, by simp, fun x hx => by simp at hx⟩

theorem fire_any {w : World} {b m : Nat} {v : Value} {l : List WaT} (c : ChT) (h : Bo w b m v l l) (hw : Wats l) (hcl : c.2.size ≤ 4294967296) :
    Calls Tryz.prog 18 #[.pointer (some ⟨b, 0, none⟩), .agg (chCs c)] w fun e w' => ∃ u, e = .returned u ∧ w'.ownsRow w.heap.size 77 5 u (l.filter (mB c)).length (fiFlat c (l.filter (mB c))) ∧ ∃ v', Bo w' b m v' (l.filter (sB c)) (l.filter (sB c)) ∧ Kept w w' (Ft b m v) ∧ v'.ownBlock = v.ownBlock := by
  cases hc : chOk c
  · refine (fire_no c h hcl hc).mono (fun e w' hh => ?_)
    rw [mB_no hc, sB_no hc]
    exact ⟨_, hh.1, World.ownsRow_nil _ _ _ _, v, h.below hh.2, (Below.kept hh.2).mono (fun k h1 h2 => by omega), rfl⟩
  · rw [mB_yes hc, sB_yes hc]
    exact fire_yes c h (by have := hw.le; omega) hw.nd hw.kind hcl hc

/-- The board and the list beside it. -/
structure OnI (w wr : World) (b m : Nat) (v vs : Value) (l : List WaT) : Prop where
  bo : Bo wr b m v l l
  ws : Wats l
  low : ∀ k, Ft b m v k → w.heap.size ≤ k
  th : wr.ownsRow w.heap.size 57 3 vs l.length (waFlat l)
  ap : ∀ k, vs.ownBlock = some k → v.ownBlock ≠ some k
  bel : Below w.heap.size w wr
theorem OnI.notFt {w wr : World} {b m : Nat} {v vs : Value} {l : List WaT} (h : OnI w wr b m v vs l) : ∀ k, vs.ownBlock = some k → ¬ Ft b m v k := fun k hk hf => by
  obtain ⟨cs, e⟩ := rowT h.th hk
  rcases hf with rfl | rfl | hf
  · have := h.bo.hb; rw [e] at this; simp at this
  · obtain ⟨es, cl, hm, _⟩ := h.bo.hm; rw [e] at hm; cases hm
  · exact h.ap k hk hf
theorem OnI.below {w wr w' : World} {b m : Nat} {v vs : Value} {l : List WaT} (h : OnI w wr b m v vs l) (hB : Below wr.heap.size wr w') : OnI w w' b m v vs l :=
  ⟨h.bo.below hB, h.ws, h.low, rowK h.th (Below.kept hB) (fun k hk => by have := (h.th.lt k hk).2; omega), h.ap, h.bel.trans (hB.mono h.bel.size)⟩
/-- A call of the board: the list beside it stays. -/
theorem OnI.call {w wr w' : World} {b m : Nat} {v v' vs : Value} {l : List WaT} (h : OnI w wr b m v vs l) (hk : Kept wr w' (Ft b m v)) (hn : NewRow wr v v') : w'.ownsRow w.heap.size 57 3 vs l.length (waFlat l) ∧ (∀ k, Ft b m v' k → w.heap.size ≤ k) ∧ (∀ k, vs.ownBlock = some k → v'.ownBlock ≠ some k) ∧ Below w.heap.size w w' := by
  refine ⟨rowK h.th hk h.notFt, fun k hf => ?_, fun k hk' => ?_, ?_⟩
  · rcases hf with rfl | rfl | hf
    · exact h.low _ (.inl rfl)
    · exact h.low _ (.inr (.inl rfl))
    · rcases hn with e | ⟨k2, e, h2⟩
      · exact h.low k (.inr (.inr (e ▸ hf)))
      · rw [e] at hf; simp at hf; have := h.bel.size; omega
  · rcases hn with e | ⟨k2, e, h2⟩
    · rw [e]; exact h.ap k hk'
    · rw [e]; have := (h.th.lt k hk').2; simp; omega
  · refine ⟨hk.os.trans h.bel.os, hk.tape.trans h.bel.tape, hk.output.trans h.bel.output, Nat.le_trans h.bel.size hk.size, fun k hk' => ?_⟩
    rw [hk.block k (Nat.lt_of_lt_of_le hk' h.bel.size) (fun hf => by have := h.low k hf; omega), h.bel.block k hk']

theorem OnI.seesV {w wr : World} {b m : Nat} {v vs : Value} {l : List WaT} (h : OnI w wr b m v vs l) : SW wr vs l := SW_owns h.th

/-- Add of a new watch, and the append beside it. -/
theorem OnI.grow {w wr w' : World} {b m : Nat} {v v' vs : Value} {l : List WaT} {x : WaT} (h : OnI w wr b m v vs l) (hbo : Bo w' b m v' (l ++ [x]) (l ++ [x])) (hk : Kept wr w' (Ft b m v)) (hn : NewRow wr v v') (hx : x ∉ l) (hl : l.length < 64) (ho : waOk x = true) (hs : x.2.2.size ≤ 4294967295) (w2 : World) (hB : Below w'.heap.size w' w2) :
    ∃ ao n c w3, (∀ ty, (Builtin.append_ #[64, 64] ty #[vs, .slice (some ⟨w2.heap.size, 0, none⟩) 1 1]).run Tryz.prog (w2.alloc (.cells (waCs x) 57)) = .ok (.slice ao n c) w3) ∧ OnI w w3 b m v' (.slice ao n c) (l ++ [x]) ∧ ∀ (k : Nat) (cs : Array Value) (T : TypeId), w2.heap[k]? = some (Obj.cells cs T (0, 0)) → T ≠ 57 → w3.heap[k]? = some (Obj.cells cs T (0, 0)) := by
  obtain ⟨t1, t2, t3, t4⟩ := h.call hk hn
  have B3 : Below w'.heap.size w' (w2.alloc (.cells (waCs x) 57)) := hB.trans (((Below.refl _ w2).alloc (Nat.le_refl _) _).mono hB.size)
  have th3 := rowK t1 (Below.kept B3) (fun k hk => by have := (t1.lt k hk).2; omega)
  obtain ⟨vn, w3, hr, ho3, hk3, hnr⟩ := app_wa (x := x) th3 (heap_alloc_new w2 _) (by omega) (Nat.le_trans t4.size B3.size)
  obtain ⟨ao, n, c, rfl⟩ : ∃ a n c, vn = .slice a n c := by
    obtain ⟨a, c, e⟩ := rowS ho3
    exact ⟨a, _, c, e⟩
  have hb3 := hbo.below B3
  have hnf : ∀ k, Ft b m v' k → vs.ownBlock ≠ some k := fun k hf hv => by
    obtain ⟨cs, e⟩ := rowT t1 hv
    rcases hf with rfl | rfl | hf
    · have := hbo.hb; rw [e] at this; simp at this
    · obtain ⟨es, cl, hm, _⟩ := hbo.hm; rw [e] at hm; cases hm
    · exact t3 k hv hf
  refine ⟨ao, n, c, w3, hr, ⟨hb3.kept hk3 hnf, h.ws.add hx hl ho hs, t2, ho3, fun k hk' => ?_, ?_⟩, fun k cs T hkc hT => ?_⟩
  · rcases hnr with e | ⟨k2, e, h2⟩
    · exact t3 k (e ▸ hk')
    · rw [e] at hk'
      simp at hk'
      intro hv
      have := hbo.lt (.inr (.inr hv))
      have := B3.size
      omega
  · refine ⟨hk3.os.trans (B3.os.trans t4.os), hk3.tape.trans (B3.tape.trans t4.tape), hk3.output.trans (B3.output.trans t4.output), Nat.le_trans (Nat.le_trans t4.size B3.size) hk3.size, fun k hk' => ?_⟩
    rw [hk3.block k (by have := t4.size; have := B3.size; omega) (fun hv => by have := (t1.lt k hv).1; omega), B3.block k (by have := t4.size; omega), t4.block k hk']
  · have hkc3 := box_later hkc ((Below.refl _ w2).alloc (Nat.le_refl _) (.cells (waCs x) 57 (0, 0)))
    refine hk3.heap hkc3 (fun hv => hT ?_)
    obtain ⟨cs', e⟩ := rowT th3 hv
    rw [hkc3] at e
    simp at e
    exact e.2

/-- A box of a type of its own is none of a board's blocks. -/
theorem Bo.notBox {w : World} {b m : Nat} {v : Value} {l l' : List WaT} (h : Bo w b m v l l') {k : Nat} {cs : Array Value} {T : TypeId} (hk : w.heap[k]? = some (.cells cs T (0, 0))) (h1 : T ≠ 80) (h2 : T ≠ 57) : ¬ Ft b m v k := fun hf => by
  rcases hf with rfl | rfl | hf
  · have := h.hb; rw [hk] at this; simp at this; exact h1 this.2
  · obtain ⟨es, cl, hm, _⟩ := h.hm; rw [hk] at hm; cases hm
  · obtain ⟨cs', e⟩ := rowT h.ho hf; rw [hk] at e; simp at e; exact h2 e.2

theorem count_old {l : List WaT} {x : WaT} (h : x ∈ l) : 0 < (l.filter (fun y => waEq y x)).length := List.length_pos_of_mem (a := x) (by simp [h, waEq_self])
theorem count_new {l : List WaT} {x : WaT} (h : x ∉ l) : (l.filter (fun y => waEq y x)).length = 0 := by
  rw [List.length_eq_zero_iff, List.filter_eq_nil_iff]
  intro y hy e
  rw [waEq_iff] at e
  exact h (e ▸ hy)

end Go.Proofs.YtkcapiblicfboaaGreatDoor

/- What WatchOnce's inner loop carries: what Fire told, what is left. -/
namespace Go.Proofs.YtkcapiblicfboaaGreatDoor
open Go.RowKit Go.Shelf
set_option maxRecDepth 8000
set_option linter.unusedSimpArgs false

theorem fiFlat_at (c : ChT) : ∀ (l : List WaT) (i : Nat) (x : WaT), l[i]? = some x → (fiFlat c l)[i * 5]? = some (.int .i64 x.1) ∧ (fiFlat c l)[i * 5 + 1]? = some (.int .i8 x.2.1) ∧ (fiFlat c l)[i * 5 + 2]? = some (.string x.2.2) ∧ (fiFlat c l)[i * 5 + 3]? = some (.int .i8 c.1) ∧ (fiFlat c l)[i * 5 + 4]? = some (.string c.2)
  | y :: r, 0, x, h => by simp at h; subst h; exact ⟨rfl, rfl, rfl, rfl, rfl⟩
  | y :: r, i + 1, x, h => by
    have := fiFlat_at c r i x (by simpa using h)
    rw [show (i + 1) * 5 = i * 5 + 1 + 1 + 1 + 1 + 1 by omega]
    exact this

/-- What Fire told, in memory. -/
theorem fi_cells {w : World} {base : Nat} {u : Value} {c : ChT} {T : List WaT} (h : w.ownsRow base 77 5 u T.length (fiFlat c T)) {i : Nat} {x : WaT} (hx : T[i]? = some x) :
    ∃ g cap, u = .slice (some ⟨g, 0, none⟩) T.length cap ∧ g < w.heap.size ∧ w.cell? ⟨g, i * 5, none⟩ = some (.int .i64 x.1) ∧ w.cell? ⟨g, i * 5 + 1, none⟩ = some (.int .i8 x.2.1) ∧ w.cell? ⟨g, i * 5 + 2, none⟩ = some (.string x.2.2) ∧ w.cell? ⟨g, i * 5 + 3, none⟩ = some (.int .i8 c.1) ∧ w.cell? ⟨g, i * 5 + 4, none⟩ = some (.string c.2) := by
  have hi : i < T.length := (List.getElem?_eq_some_iff.1 hx).1
  obtain ⟨_, ⟨rfl, h0⟩ | ⟨g, cap, cur, rfl, _, a3, a4, _, _, a7⟩⟩ := h
  · omega
  · obtain ⟨e1, e2, e3, e4, e5⟩ := fiFlat_at c T i x hx
    rw [← a7, List.getElem?_take, if_pos (by omega)] at e1 e2 e3 e4 e5
    have hc : ∀ j v, cur.toList[j]? = some v → w.cell? ⟨g, j, none⟩ = some v := fun j v hj => by rw [cell_of_row w g _ _ _ _ a3, ← Array.getElem?_toList]; exact hj
    exact ⟨g, cap, rfl, lt_of_block a3, hc _ _ e1, hc _ _ e2, hc _ _ e3, hc _ _ e4, hc _ _ e5⟩

theorem filt_at {p : WaT → Bool} {l : List WaT} {k : Nat} {x : WaT} (hx : l[k]? = some x) (hp : p x = true) : (l.filter p)[((l.take k).filter p).length]? = some x := by
  have e : l = l.take k ++ x :: l.drop (k + 1) := by rw [← drop_at hx, List.take_append_drop]
  have e2 : l.filter p = (l.take k).filter p ++ x :: (l.drop (k + 1)).filter p := by
    conv => lhs; rw [e]
    rw [List.filter_append, List.filter_cons_of_pos hp]
  rw [e2]
  simp

/-- Behind Fire and IsChange, ahead of the inner loop. -/
structure Mid (w V V3 : World) (b m : Nat) (v' tv u : Value) (c : ChT) (l : List WaT) (bs : Nat) (o : Obj) : Prop where
  bo : Bo V3 b m v' (l.filter (sB c)) (l.filter (sB c))
  ws : Wats l
  low : ∀ k, Ft b m v' k → w.heap.size ≤ k
  th : V3.ownsRow w.heap.size 57 3 tv l.length (waFlat l)
  told : V3.ownsRow V.heap.size 77 5 u (l.filter (mB c)).length (fiFlat c (l.filter (mB c)))
  box : V3.heap[bs]? = some o
  bel : Below w.heap.size w V3
theorem Mid.below {w V V3 V4 : World} {b m : Nat} {v' tv u : Value} {c : ChT} {l : List WaT} {bs : Nat} {o : Obj} (h : Mid w V V3 b m v' tv u c l bs o) (hB : Below V3.heap.size V3 V4) : Mid w V V4 b m v' tv u c l bs o :=
  ⟨h.bo.below hB, h.ws, h.low, rowK h.th (Below.kept hB) (fun k hk => by have := (h.th.lt k hk).2; omega), rowK h.told (Below.kept hB) (fun k hk => by have := (h.told.lt k hk).2; omega), box_later h.box hB, h.bel.trans (hB.mono h.bel.size)⟩
theorem Mid.start {w V V2 : World} {b m : Nat} {v v' tv u : Value} {c : ChT} {l : List WaT} {bs : Nat} {cs : Array Value} {T : TypeId} (h : OnI w V b m v tv l) (hbx : V.heap[bs]? = some (.cells cs T (0, 0))) (h1 : T ≠ 80) (h2 : T ≠ 57) (hbo : Bo V2 b m v' (l.filter (sB c)) (l.filter (sB c))) (hk : Kept V V2 (Ft b m v)) (hv : v'.ownBlock = v.ownBlock) (ht : V2.ownsRow V.heap.size 77 5 u (l.filter (mB c)).length (fiFlat c (l.filter (mB c)))) : Mid w V V2 b m v' tv u c l bs (.cells cs T (0, 0)) := by
  obtain ⟨t1, t2, t3, t4⟩ := h.call hk (.inl hv)
  exact ⟨hbo, h.ws, t2, t1, ht, hk.heap hbx (h.bo.notBox hbx h1 h2), t4⟩
/-- Behind the inner loop. -/
theorem Mid.done {w V V3 wr : World} {b m : Nat} {v' tv u vl : Value} {c : ChT} {l : List WaT} {bs : Nat} {o : Obj} (h : Mid w V V3 b m v' tv u c l bs o) (hB : Below V3.heap.size V3 wr) (hl : wr.ownsRow V3.heap.size 57 3 vl (l.filter (sB c)).length (waFlat (l.filter (sB c)))) : OnI w wr b m v' vl (l.filter (sB c)) := by
  refine ⟨h.bo.below hB, h.ws.filter _, h.low, row_lower hl h.bel.size, fun k hk hv => ?_, h.bel.trans (hB.mono h.bel.size)⟩
  have := (hl.lt k hk).1
  have := h.bo.lt (.inr (.inr hv))
  omega

/-- One more left. -/
theorem left_app {w0 w : World} {vl : Value} {L : List WaT} {x : WaT} (hl : w.ownsRow w0.heap.size 57 3 vl L.length (waFlat L)) (hB : Below w0.heap.size w0 w) (hle : L.length ≤ 1000) :
    ∃ ao n c w3, (∀ ty, (Builtin.append_ #[64, 64] ty #[vl, .slice (some ⟨w.heap.size, 0, none⟩) 1 1]).run Tryz.prog (w.alloc (.cells (waCs x) 57)) = .ok (.slice ao n c) w3) ∧ w3.ownsRow w0.heap.size 57 3 (.slice ao n c) (L ++ [x]).length (waFlat (L ++ [x])) ∧ Below w0.heap.size w0 w3 := by
  have B3 : Below w.heap.size w (w.alloc (.cells (waCs x) 57)) := (Below.refl _ w).alloc (Nat.le_refl _) _
  have hl3 := rowK hl (Below.kept B3) (fun k hk => by have := (hl.lt k hk).2; omega)
  obtain ⟨vn, w3, hr, ho3, hk3, hnr⟩ := app_wa (x := x) hl3 (heap_alloc_new w _) (by omega) (Nat.le_trans hB.size B3.size)
  obtain ⟨ao, n, c, rfl⟩ : ∃ a n c, vn = .slice a n c := by
    obtain ⟨a, c, e⟩ := rowS ho3
    exact ⟨a, _, c, e⟩
  refine ⟨ao, n, c, w3, hr, ho3, ?_⟩
  refine ⟨hk3.os.trans (B3.os.trans hB.os), hk3.tape.trans (B3.tape.trans hB.tape), hk3.output.trans (B3.output.trans hB.output), Nat.le_trans (Nat.le_trans hB.size B3.size) hk3.size, fun k hk' => ?_⟩
  rw [hk3.block k (by have := hB.size; have := B3.size; omega) (fun hv => by have := (hl.lt k hv).1; omega), B3.block k (by have := hB.size; omega), hB.block k hk']

end Go.Proofs.YtkcapiblicfboaaGreatDoor
