/- What WatchParts' walk carries: the board behind the Adds; the parts of a list. -/
import Derived.Test.YtgdbcdddcejehaaWaTJ
import Derived.Test.YtgdbcdddcejehaaWaOJ
namespace Go.Proofs.Ytgdbcdddcejehaa
open Go.RowKit Go.Shelf
set_option maxRecDepth 8000
set_option linter.unusedSimpArgs false

theorem waOk_small {x : WaT} (h : waOk x = true) (hs : x.2.2.size ≤ 4294967295) : x.2.2.size ≤ 64 := by
  unfold waOk at h
  simp only [Bool.and_eq_true] at h
  have h1 := (isPb_iff (by rw [← size_list]; omega)).1 h.1
  rcases h1 with h1 | ⟨r, h1, h2, _⟩
  · rw [size_list, h1]; decide
  · rw [size_list]; exact h2

/-- Behind the first i Adds. -/
structure PaI (w wr : World) (b m : Nat) (v : Value) (l ax : List WaT) (i : Nat) : Prop where
  bo : Bo wr b m v l l
  ws : Wats l
  low : ∀ k, Ft b m v k → w.heap.size ≤ k
  bel : Below w.heap.size w wr
  all : l.length < 64 → ∀ x ∈ ax.take i, waOk x = true → x ∈ l
theorem PaI.below {w wr w' : World} {b m : Nat} {v : Value} {l ax : List WaT} {i : Nat} (h : PaI w wr b m v l ax i) (hB : Below wr.heap.size wr w') : PaI w w' b m v l ax i :=
  ⟨h.bo.below hB, h.ws, h.low, h.bel.trans (hB.mono h.bel.size), h.all⟩
theorem PaI.skip {w wr : World} {b m : Nat} {v : Value} {l ax : List WaT} {i : Nat} {x : WaT} (h : PaI w wr b m v l ax i) (hx : ax[i]? = some x) (hn : l.length < 64 → waOk x = true → x ∈ l) : PaI w wr b m v l ax (i + 1) :=
  ⟨h.bo, h.ws, h.low, h.bel, fun hl y hy ho => by
    rw [take_at hx] at hy
    rcases List.mem_append.1 hy with hy | hy
    · exact h.all hl y hy ho
    · simp at hy; subst hy; exact hn hl ho⟩
theorem PaI.add {w wr w' : World} {b m : Nat} {v v' : Value} {l ax : List WaT} {i : Nat} {x : WaT} (h : PaI w wr b m v l ax i) (hx : ax[i]? = some x) (hbo : Bo w' b m v' (l ++ [x]) (l ++ [x])) (hk : Kept wr w' (Ft b m v)) (hn : NewRow wr v v') (hnm : x ∉ l) (h64 : l.length < 64) (ho : waOk x = true) (hs : x.2.2.size ≤ 4294967295) : PaI w w' b m v' (l ++ [x]) ax (i + 1) := by
  refine ⟨hbo, h.ws.add hnm h64 ho hs, fun k hf => ?_, ?_, fun hl y hy hoy => ?_⟩
  · rcases hf with rfl | rfl | hf
    · exact h.low _ (.inl rfl)
    · exact h.low _ (.inr (.inl rfl))
    · rcases hn with e | ⟨k2, e, h2⟩
      · exact h.low k (.inr (.inr (e ▸ hf)))
      · rw [e] at hf; simp at hf; have := h.bel.size; omega
  · refine ⟨hk.os.trans h.bel.os, hk.tape.trans h.bel.tape, hk.output.trans h.bel.output, Nat.le_trans h.bel.size hk.size, fun k hk' => ?_⟩
    rw [hk.block k (Nat.lt_of_lt_of_le hk' h.bel.size) (fun hf => by have := h.low k hf; omega), h.bel.block k hk']
  · rw [take_at hx] at hy
    rcases List.mem_append.1 hy with hy | hy
    · exact List.mem_append.2 (.inl (h.all h64 y hy hoy))
    · simp at hy; subst hy; simp
/-- What Add does, whatever the watch. -/
theorem PaI.addAny {w wr : World} {b m : Nat} {v : Value} {l ax : List WaT} {i : Nat} {x : WaT} (h : PaI w wr b m v l ax i) (hx : ax[i]? = some x) (hs : x.2.2.size ≤ 4294967295) :
    Calls Try.prog 9 #[.pointer (some ⟨b, 0, none⟩), .agg (waCs x)] wr fun e w' => ∃ e0 : Int, e = .returned (.int .i64 e0) ∧ ∃ v' l', PaI w w' b m v' l' ax (i + 1) := by
  cases hok : waOk x
  · exact (add_no x h.bo (by omega) hok).mono (fun e w' hh => ⟨1, hh.1, v, l, (h.below hh.2).skip hx (fun _ ho => by rw [hok] at ho; cases ho)⟩)
  · by_cases hm : x ∈ l
    · exact (add_old x h.bo (by omega) hok hm).mono (fun e w' hh => ⟨0, hh.1, v, l, (h.below hh.2).skip hx (fun _ _ => hm)⟩)
    · by_cases h64 : l.length < 64
      · refine (add_new x h.bo (by omega) hok hm h64).mono (fun e w' hh => ?_)
        obtain ⟨he, v', hbo, hk, hn⟩ := hh
        exact ⟨0, he, v', _, h.add hx hbo hk hn hm h64 hok hs⟩
      · exact (add_full x h.bo (by omega) hok hm (by omega)).mono (fun e w' hh => ⟨180, hh.1, v, l, (h.below hh.2).skip hx (fun hl _ => absurd hl h64)⟩)

/-- Whom Clear, or Drop, takes. -/
def gB (cl : Bool) (c : Int) (x : WaT) : Bool := cl || ofC c x

/-- What is told and what is left, in memory. -/
structure PaM (w V : World) (l : List WaT) (cl : Bool) (c : Int) (ub ug ua : Value) : Prop where
  be : SW V ub l
  go : SW V ug (l.filter (gB cl c))
  af : SW V ua (l.filter (fun x => !gB cl c x))
  bel : Below w.heap.size w V

theorem SW.below {w w' : World} {v : Value} {l : List WaT} (h : SW w v l) (hB : Below w.heap.size w w') : SW w' v l := by
  obtain ⟨ao, cap, rfl, h2, h3⟩ := h
  refine ⟨ao, cap, rfl, h2, fun hne => ?_⟩
  obtain ⟨b, off, rfl, h5⟩ := h3 hne
  exact ⟨b, off, rfl, fun i x hx => ⟨cellB hB (h5 i x hx).1, cellB hB (h5 i x hx).2.1, cellB hB (h5 i x hx).2.2⟩⟩
theorem SW.belowW {w w' : World} {v : Value} {l : List WaT} (h : SW w v l) (hB : Below w.heap.size w w') : SW w' v l := h.below hB
theorem PaM.below {w V V' : World} {l : List WaT} {cl : Bool} {c : Int} {ub ug ua : Value} (h : PaM w V l cl c ub ug ua) (hB : Below V.heap.size V V') : PaM w V' l cl c ub ug ua :=
  ⟨h.be.below hB, h.go.below hB, h.af.below hB, h.bel.trans (hB.mono h.bel.size)⟩

theorem SW.at {w : World} {v : Value} {l : List WaT} (h : SW w v l) {i : Nat} {x : WaT} (hx : l[i]? = some x) : ∃ b off cap, v = .slice (some ⟨b, off, none⟩) l.length cap ∧ b < w.heap.size ∧ w.cell? ⟨b, off + i * 3, none⟩ = some (.int .i64 x.1) ∧ w.cell? ⟨b, off + i * 3 + 1, none⟩ = some (.int .i8 x.2.1) ∧ w.cell? ⟨b, off + i * 3 + 2, none⟩ = some (.string x.2.2) := by
  obtain ⟨ao, cap, rfl, h2, h3⟩ := h
  obtain ⟨b, off, rfl, h5⟩ := h3 (fun e => by rw [e] at hx; simp at hx)
  obtain ⟨k0, k1, k2⟩ := h5 i x hx
  exact ⟨b, off, cap, rfl, World.block_lt_of_cell? w _ k0, k0, k1, k2⟩

theorem count_one {l : List WaT} (hn : l.Nodup) {x : WaT} (hx : x ∈ l) : (l.filter (fun y => waEq y x)).length = 1 := by
  obtain ⟨a, b, rfl, ha⟩ := mem_split hx
  have hb : x ∉ b := by
    have := (List.nodup_append.1 hn).2.1
    exact (List.nodup_cons.1 this).1
  rw [List.filter_append, List.length_append, count_new ha, List.filter_cons_of_pos (p := fun y => waEq y x) (waEq_self x), List.length_cons, count_new hb]

theorem gB_clear {l : List WaT} {c : Int} : l.filter (gB true c) = l ∧ l.filter (fun x => !gB true c x) = [] := ⟨List.filter_eq_self.2 (fun x _ => by simp [gB]), List.filter_eq_nil_iff.2 (fun x _ => by simp [gB])⟩
theorem gB_drop {l : List WaT} {c : Int} : l.filter (gB false c) = l.filter (ofC c) ∧ l.filter (fun x => !gB false c x) = l.filter (fun x => !ofC c x) := by
  have e : gB false c = ofC c := by funext x; simp [gB]
  rw [e]; exact ⟨rfl, rfl⟩

end Go.Proofs.Ytgdbcdddcejehaa
