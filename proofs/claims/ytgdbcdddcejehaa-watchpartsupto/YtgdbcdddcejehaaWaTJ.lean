/- What WatchOnce's walk carries from round to round: the board and the list beside it. -/
import Derived.Test.YtgdbcdddcejehaaWaNJ
import Derived.Test.YtgdbcdddcejehaaWaRJ
import Derived.Test.YtgdbcdddcejehaaWaSJ
namespace Go.Proofs.Ytgdbcdddcejehaa
open Go.RowKit Go.Shelf
set_option maxRecDepth 8000
set_option linter.unusedSimpArgs false

/-- Is a watch told of a change? Is it left? -/
def mB (c : ChT) (x : WaT) : Bool := chOk c && metB c x
def sB (c : ChT) (x : WaT) : Bool := !(mB c x && goB x)

theorem mB_no {c : ChT} (h : chOk c = false) (l : List WaT) : l.filter (mB c) = [] := List.filter_eq_nil_iff.2 (fun x _ => by simp [mB, h])
theorem sB_no {c : ChT} (h : chOk c = false) (l : List WaT) : l.filter (sB c) = l := List.filter_eq_self.2 (fun x _ => by simp [sB, mB, h])
theorem mB_yes {c : ChT} (h : chOk c = true) : mB c = metB c := by funext x; simp [mB, h]
theorem sB_yes {c : ChT} (h : chOk c = true) : sB c = stayB c := by funext x; simp [sB, stayB, mB, h]

/-- The watches of a board. -/
structure Wats (l : List WaT) : Prop where
  nd : l.Nodup
  le : l.length ≤ 64
  ok : ∀ x ∈ l, waOk x = true ∧ x.2.2.size ≤ 4294967295
theorem waOk_kind {x : WaT} (h : waOk x = true) : x.2.1 = 1 ∨ x.2.1 = 2 ∨ x.2.1 = 3 ∨ x.2.1 = 4 := by
  unfold waOk at h
  simp only [Bool.and_eq_true, decide_eq_true_eq] at h
  omega
theorem Wats.kind {l : List WaT} (h : Wats l) : ∀ x ∈ l, x.2.1 = 1 ∨ x.2.1 = 2 ∨ x.2.1 = 3 ∨ x.2.1 = 4 := fun x hx => waOk_kind (h.ok x hx).1
theorem Wats.filter {l : List WaT} (h : Wats l) (p : WaT → Bool) : Wats (l.filter p) :=
  ⟨h.nd.filter p, Nat.le_trans (List.length_filter_le _ _) h.le, fun x hx => h.ok x (List.mem_filter.1 hx).1⟩
theorem Wats.add {l : List WaT} (h : Wats l) {x : WaT} (hx : x ∉ l) (hl : l.length < 64) (ho : waOk x = true) (hs : x.2.2.size ≤ 4294967295) : Wats (l ++ [x]) :=
  ⟨by
    rw [List.nodup_append]
    exact ⟨h.nd, by simp, fun a ha b hb => by simp at hb; subst hb; exact fun e => hx (e ▸ ha)⟩, by simp; omega, fun y hy => by
    rcases List.mem_append.1 hy with hy | hy
    · exact h.ok y hy
    · simp at hy; subst hy; exact ⟨ho, hs⟩⟩
theorem Wats.nil : Wats [] := ⟨by simp, by simp, fun x hx => by simp at hx⟩

theorem fire_any {w : World} {b m : Nat} {v : Value} {l : List WaT} (c : ChT) (h : Bo w b m v l l) (hw : Wats l) (hcl : c.2.size ≤ 4294967296) :
    Calls Try.prog 12 #[.pointer (some ⟨b, 0, none⟩), .agg (chCs c)] w fun e w' => ∃ u, e = .returned u ∧ w'.ownsRow w.heap.size 44 5 u (l.filter (mB c)).length (fiFlat c (l.filter (mB c))) ∧ ∃ v', Bo w' b m v' (l.filter (sB c)) (l.filter (sB c)) ∧ Kept w w' (Ft b m v) ∧ v'.ownBlock = v.ownBlock := by
  cases hc : chOk c
  · refine (fire_no c h hcl hc).mono (fun e w' hh => ?_)
    rw [mB_no hc, sB_no hc]
    exact ⟨_, hh.1, World.ownsRow_nil _ _ _ _, v, h.below hh.2, (Below.kept hh.2).mono (fun k h1 h2 => by omega), rfl⟩
  · rw [mB_yes hc, sB_yes hc]
    exact fire_yes c h (by have := hw.le; omega) hw.nd hw.kind hcl hc

/-- The board and the list beside it. -/
structure OnI (w wr : World) (b m : Nat) (v vs : Value) (l : List WaT) : Prop where
  bo : Bo wr b m v l l
  ws : Wats l
  low : ∀ k, Ft b m v k → w.heap.size ≤ k
  th : wr.ownsRow w.heap.size 30 3 vs l.length (waFlat l)
  ap : ∀ k, vs.ownBlock = some k → v.ownBlock ≠ some k
  bel : Below w.heap.size w wr
theorem OnI.notFt {w wr : World} {b m : Nat} {v vs : Value} {l : List WaT} (h : OnI w wr b m v vs l) : ∀ k, vs.ownBlock = some k → ¬ Ft b m v k := fun k hk hf => by
  obtain ⟨cs, e⟩ := rowT h.th hk
  rcases hf with rfl | rfl | hf
  · have := h.bo.hb; rw [e] at this; simp at this
  · obtain ⟨es, cl, hm, _⟩ := h.bo.hm; rw [e] at hm; cases hm
  · exact h.ap k hk hf
theorem OnI.below {w wr w' : World} {b m : Nat} {v vs : Value} {l : List WaT} (h : OnI w wr b m v vs l) (hB : Below wr.heap.size wr w') : OnI w w' b m v vs l :=
  ⟨h.bo.below hB, h.ws, h.low, rowK h.th (Below.kept hB) (fun k hk => by have := (h.th.lt k hk).2; omega), h.ap, h.bel.trans (hB.mono h.bel.size)⟩
/-- A call of the board: the list beside it stays. -/
theorem OnI.call {w wr w' : World} {b m : Nat} {v v' vs : Value} {l : List WaT} (h : OnI w wr b m v vs l) (hk : Kept wr w' (Ft b m v)) (hn : NewRow wr v v') : w'.ownsRow w.heap.size 30 3 vs l.length (waFlat l) ∧ (∀ k, Ft b m v' k → w.heap.size ≤ k) ∧ (∀ k, vs.ownBlock = some k → v'.ownBlock ≠ some k) ∧ Below w.heap.size w w' := by
  refine ⟨rowK h.th hk h.notFt, fun k hf => ?_, fun k hk' => ?_, ?_⟩
  · rcases hf with rfl | rfl | hf
    · exact h.low _ (.inl rfl)
    · exact h.low _ (.inr (.inl rfl))
    · rcases hn with e | ⟨k2, e, h2⟩
      · exact h.low k (.inr (.inr (e ▸ hf)))
      · rw [e] at hf; simp at hf; have := h.bel.size; omega
  · rcases hn with e | ⟨k2, e, h2⟩
    · rw [e]; exact h.ap k hk'
    · rw [e]; have := (h.th.lt k hk').2; simp; omega
  · refine ⟨hk.os.trans h.bel.os, hk.tape.trans h.bel.tape, hk.output.trans h.bel.output, Nat.le_trans h.bel.size hk.size, fun k hk' => ?_⟩
    rw [hk.block k (Nat.lt_of_lt_of_le hk' h.bel.size) (fun hf => by have := h.low k hf; omega), h.bel.block k hk']

theorem OnI.seesV {w wr : World} {b m : Nat} {v vs : Value} {l : List WaT} (h : OnI w wr b m v vs l) : SW wr vs l := SW_owns h.th

/-- Add of a new watch, and the append beside it. -/
theorem OnI.grow {w wr w' : World} {b m : Nat} {v v' vs : Value} {l : List WaT} {x : WaT} (h : OnI w wr b m v vs l) (hbo : Bo w' b m v' (l ++ [x]) (l ++ [x])) (hk : Kept wr w' (Ft b m v)) (hn : NewRow wr v v') (hx : x ∉ l) (hl : l.length < 64) (ho : waOk x = true) (hs : x.2.2.size ≤ 4294967295) (w2 : World) (hB : Below w'.heap.size w' w2) :
    ∃ ao n c w3, (∀ ty, (Builtin.append_ #[27, 27] ty #[vs, .slice (some ⟨w2.heap.size, 0, none⟩) 1 1]).run Try.prog (w2.alloc (.cells (waCs x) 30)) = .ok (.slice ao n c) w3) ∧ OnI w w3 b m v' (.slice ao n c) (l ++ [x]) ∧ ∀ (k : Nat) (cs : Array Value) (T : TypeId), w2.heap[k]? = some (Obj.cells cs T (0, 0)) → T ≠ 30 → w3.heap[k]? = some (Obj.cells cs T (0, 0)) := by
  obtain ⟨t1, t2, t3, t4⟩ := h.call hk hn
  have B3 : Below w'.heap.size w' (w2.alloc (.cells (waCs x) 30)) := hB.trans (((Below.refl _ w2).alloc (Nat.le_refl _) _).mono hB.size)
  have th3 := rowK t1 (Below.kept B3) (fun k hk => by have := (t1.lt k hk).2; omega)
  obtain ⟨vn, w3, hr, ho3, hk3, hnr⟩ := app_wa (x := x) th3 (heap_alloc_new w2 _) (by omega) (Nat.le_trans t4.size B3.size)
  obtain ⟨ao, n, c, rfl⟩ : ∃ a n c, vn = .slice a n c := by
    obtain ⟨a, c, e⟩ := rowS ho3
    exact ⟨a, _, c, e⟩
  have hb3 := hbo.below B3
  have hnf : ∀ k, Ft b m v' k → vs.ownBlock ≠ some k := fun k hf hv => by
    obtain ⟨cs, e⟩ := rowT t1 hv
    rcases hf with rfl | rfl | hf
    · have := hbo.hb; rw [e] at this; simp at this
    · obtain ⟨es, cl, hm, _⟩ := hbo.hm; rw [e] at hm; cases hm
    · exact t3 k hv hf
  refine ⟨ao, n, c, w3, hr, ⟨hb3.kept hk3 hnf, h.ws.add hx hl ho hs, t2, ho3, fun k hk' => ?_, ?_⟩, fun k cs T hkc hT => ?_⟩
  · rcases hnr with e | ⟨k2, e, h2⟩
    · exact t3 k (e ▸ hk')
    · rw [e] at hk'
      simp at hk'
      intro hv
      have := hbo.lt (.inr (.inr hv))
      have := B3.size
      omega
  · refine ⟨hk3.os.trans (B3.os.trans t4.os), hk3.tape.trans (B3.tape.trans t4.tape), hk3.output.trans (B3.output.trans t4.output), Nat.le_trans (Nat.le_trans t4.size B3.size) hk3.size, fun k hk' => ?_⟩
    rw [hk3.block k (by have := t4.size; have := B3.size; omega) (fun hv => by have := (t1.lt k hv).1; omega), B3.block k (by have := t4.size; omega), t4.block k hk']
  · have hkc3 := box_later hkc ((Below.refl _ w2).alloc (Nat.le_refl _) (.cells (waCs x) 30 (0, 0)))
    refine hk3.heap hkc3 (fun hv => hT ?_)
    obtain ⟨cs', e⟩ := rowT th3 hv
    rw [hkc3] at e
    simp at e
    exact e.2

/-- A box of a type of its own is none of a board's blocks. -/
theorem Bo.notBox {w : World} {b m : Nat} {v : Value} {l l' : List WaT} (h : Bo w b m v l l') {k : Nat} {cs : Array Value} {T : TypeId} (hk : w.heap[k]? = some (.cells cs T (0, 0))) (h1 : T ≠ 51) (h2 : T ≠ 30) : ¬ Ft b m v k := fun hf => by
  rcases hf with rfl | rfl | hf
  · have := h.hb; rw [hk] at this; simp at this; exact h1 this.2
  · obtain ⟨es, cl, hm, _⟩ := h.hm; rw [hk] at hm; cases hm
  · obtain ⟨cs', e⟩ := rowT h.ho hf; rw [hk] at e; simp at e; exact h2 e.2

theorem count_old {l : List WaT} {x : WaT} (h : x ∈ l) : 0 < (l.filter (fun y => waEq y x)).length := List.length_pos_of_mem (a := x) (by simp [h, waEq_self])
theorem count_new {l : List WaT} {x : WaT} (h : x ∉ l) : (l.filter (fun y => waEq y x)).length = 0 := by
  rw [List.length_eq_zero_iff, List.filter_eq_nil_iff]
  intro y hy e
  rw [waEq_iff] at e
  exact h (e ▸ hy)

end Go.Proofs.Ytgdbcdddcejehaa
