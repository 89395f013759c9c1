/- What the test of a board's shrink, and slices.IndexFunc and slices.DeleteFunc with it, answer. -/
import Derived.Test.YtgdbcdddcejehaaWaHJ
import Derived.Deep.CutRange
namespace Go.Proofs.Ytgdbcdddcejehaa
open Go.RowKit Go.Shelf
set_option maxRecDepth 8000
set_option linter.unusedSimpArgs false

/-- What the test reads: the caught pointer, the board, its map. -/
structure Ask (w : World) (pb b m : Nat) (l' : List WaT) : Prop where
  hp : w.heap[pb]? = some (.cells #[.pointer (some ⟨b, 0, none⟩)] 25 (0, 0))
  hc : ∃ v, w.heap[b]? = some (.cells #[v, .map (some m)] 51 (0, 0))
  hm : Mp w m l'
theorem Ask.kept {w w' : World} {S : Nat → Prop} {pb b m : Nat} {l' : List WaT} (h : Ask w pb b m l') (hk : Kept w w' S) (h1 : ¬ S pb) (h2 : ¬ S b) (h3 : ¬ S m) : Ask w' pb b m l' := by
  obtain ⟨v, hv⟩ := h.hc
  exact ⟨hk.heap h.hp h1, ⟨v, hk.heap hv h2⟩, h.hm.kept hk h3⟩
theorem Ask.below {w w' : World} {pb b m : Nat} {l' : List WaT} (h : Ask w pb b m l') (hB : Below w.heap.size w w') : Ask w' pb b m l' := by
  obtain ⟨v, hv⟩ := h.hc
  have := lt_of_block h.hp
  have := lt_of_block hv
  have := h.hm.lt
  exact h.kept (Below.kept hB) (by omega) (by omega) (by omega)

theorem cellB {w w' : World} {a : Addr} {v : Value} (hB : Below w.heap.size w w') (h : w.cell? a = some v) : w'.cell? a = some v := by
  have hl : a.block < w.heap.size := World.block_lt_of_cell? w a h
  unfold World.cell? at h ⊢
  rw [hB.block _ hl]
  exact h

def keepB (l' : List WaT) (x : WaT) : Bool := l'.any (waEq x)
theorem keepB_yes {l' : List WaT} {x : WaT} (h : x ∈ l') : keepB l' x = true := List.any_eq_true.2 ⟨x, h, waEq_self x⟩
theorem keepB_no {l' : List WaT} {x : WaT} (h : x ∉ l') : keepB l' x = false := by
  cases hh : keepB l' x
  · rfl
  · obtain ⟨y, hy, e⟩ := List.any_eq_true.1 hh
    rw [waEq_iff] at e
    subst e
    exact absurd hy h
theorem keepB_iff (l' : List WaT) (x : WaT) : keepB l' x = true ↔ x ∈ l' := ⟨fun h => by
    by_cases hx : x ∈ l'
    · exact hx
    · rw [keepB_no hx] at h; exact absurd h (by simp), keepB_yes⟩

set_option maxHeartbeats 1000000 in
theorem shrink1_any {w : World} {pb b m : Nat} {l' : List WaT} (x : WaT) (h : Ask w pb b m l') :
    Calls Try.prog 31 #[.agg (waCs x), .pointer (some ⟨pb, 0, none⟩)] w fun e w' => e = .returned (.bool (!keepB l' x)) ∧ Below w.heap.size w w' := by
  have hB : Below w.heap.size w (w.alloc (.cells (waCs x) 30)) := (Below.refl _ w).alloc (Nat.le_refl _) _
  have h1 := h.below hB
  obtain ⟨v, hv⟩ := h1.hc
  obtain ⟨rr, rb, hrr, hlk⟩ : ∃ (rr : Value) (rb : Bool), Hid (keepB l' x = rb) ∧ ∀ n, (Instr.lookup 49 (.map (some m)) (.agg #[.int .i64 x.1, .int .i8 x.2.1, .string x.2.2]) true).run Try.prog ((w.alloc (.cells (waCs x) 30)).drewN n) = .ok (.tuple #[rr, .bool rb]) ((w.alloc (.cells (waCs x) 30)).drewN n) := by
    by_cases hx : x ∈ l'
    · obtain ⟨l1, l2, e, hn⟩ := mem_split hx
      exact ⟨wishV x, true, keepB_yes hx, fun n => look_some (w := (w.alloc (.cells (waCs x) 30)).drewN n) (by have := h1.hm; rw [e] at this; exact this) hn true⟩
    · exact ⟨.nilIface, false, keepB_no hx, fun n => look_none (w := (w.alloc (.cells (waCs x) 30)).drewN n) h1.hm hx true⟩
  have c0 := cell_of_row _ pb 0 _ _ _ h1.hp
  have c1 := cell_of_row _ b 1 _ _ _ hv
  have hbx : (w.alloc (.cells (waCs x) 30)).heap[w.heap.size]? = some (.cells (waCs x) 30 (0, 0)) := heap_alloc_new w _
  have d0 := cell_of_row _ w.heap.size 0 _ _ _ hbx
  have d1 := cell_of_row _ w.heap.size 1 _ _ _ hbx
  have d2 := cell_of_row _ w.heap.size 2 _ _ _ hbx
  have hz1 := lt_of_block h1.hp
  have hz2 := lt_of_block hv
  have hz3 := lt_of_block hbx
  have HB : Hid (Below w.heap.size w (w.alloc (.cells (waCs x) 30))) := hB
  clear hbx h1 hB h hv
  go_enter Try.func31, Try.ntmps31
  go_wp2_with fail
  generalize w.alloc (.cells (waCs x) 30) = V at *
  go_quiet (fail)
  go_wp2
  all_goals (go_ret; exact ⟨by rw [hrr.out]; rfl, below_drewN HB.out _⟩)

set_option maxHeartbeats 1000000 in
theorem indexFW {w : World} {pb b m : Nat} {l' : List WaT} (h : Ask w pb b m l') (v : Value) (l : List WaT) (hv : SW w v l) (hlen : l.length ≤ 2000000000) :
    Calls Try.prog 36 #[v, .func (.func 31) #[] #[.pointer (some ⟨pb, 0, none⟩)]] w fun e w' => ((e = .returned (.int .i64 (-1)) ∧ l.filter (keepB l') = l) ∨ ∃ i : Nat, i < l.length ∧ e = .returned (.int .i64 i) ∧ (l.take i).filter (keepB l') = l.take i ∧ (l.take (i + 1)).filter (keepB l') = l.take i) ∧ Below w.heap.size w w' := by
  obtain ⟨ao, cap, rfl, hcap, hc⟩ := hv
  have HC0 : Hid (l ≠ [] → ∃ b off, ao = some ⟨b, off, none⟩ ∧ ∀ i x, l[i]? = some x → w.cell? ⟨b, off + i * 3, none⟩ = some (.int .i64 x.1) ∧ w.cell? ⟨b, off + i * 3 + 1, none⟩ = some (.int .i8 x.2.1) ∧ w.cell? ⟨b, off + i * 3 + 2, none⟩ = some (.string x.2.2)) := hc
  have HA0 : Hid (Ask w pb b m l') := h
  clear hc h
  go_enter Try.func36, Try.ntmps36
  go_wp2
  go_loopw [8] (fun vi wr => ∃ i : Nat, i ≤ l.length ∧ vi = .int .i64 (i : Int) ∧ Hid ((l.take i).filter (keepB l') = l.take i) ∧ Hid (Below w.heap.size w wr)) (fun vi _ => l.length - (intOf vi).toNat)
  case atStart => exact ⟨0, by omega, rfl, by show _ = _; simp, Below.refl _ _⟩
  case round =>
    obtain ⟨i, hi, rfl, HA, HW⟩ := hrel
    by_cases hlt : i < l.length
    · have hd : decide ((i : Int) < (l.length : Int)) = true := by simp; omega
      obtain ⟨b0, off, hao, hcx⟩ := HC0.out (fun e => by rw [e] at hlt; simp at hlt)
      obtain ⟨x, hx⟩ : ∃ x, l[i]? = some x := ⟨_, List.getElem?_eq_getElem hlt⟩
      obtain ⟨k0, k1, k2⟩ := hcx i x hx
      have l0 := cellB HW.out k0
      have l1 := cellB HW.out k1
      have l2 := cellB HW.out k2
      obtain ⟨bb, hbb⟩ : ∃ bb, bb = keepB l' x := ⟨_, rfl⟩
      have HF : Hid (Calls Try.prog 31 #[.agg (waCs x), .pointer (some ⟨pb, 0, none⟩)] wr fun e w' => e = .returned (.bool (!bb)) ∧ Hid (Below w.heap.size w w')) := by
        rw [hbb]
        exact (shrink1_any x (HA0.out.below HW.out)).mono (fun e w' hh => ⟨hh.1, HW.out.trans (hh.2.mono HW.out.size)⟩)
      have HN : Hid ((l.take (i + 1)).filter (keepB l') = l.take i ++ (if bb then [x] else []) ∧ l.take (i + 1) = l.take i ++ [x]) := by
        refine ⟨?_, by rw [List.take_add_one, hx]; rfl⟩
        rw [List.take_add_one, hx, List.filter_append, HA.out, hbb]
        cases hk : keepB l' x <;> simp [hk]
      subst hao
      clear hcx hx hbb k0 k1 k2
      go_wp2_with fail
      go_at_call 31
      refine (HF.out).mono ?_
      rintro e w1 ⟨rfl, HB1⟩
      cases bb
      · have HT : Hid ((l.take (i + 1)).filter (keepB l') = l.take i) := by show _ = _; have := HN.out.1; simpa using this
        go_wp2
        all_goals (go_ret; exact ⟨.inr ⟨i, hlt, rfl, HA.out, HT.out⟩, HB1.out⟩)
      · have HT : Hid ((l.take (i + 1)).filter (keepB l') = l.take (i + 1)) := by show _ = _; rw [HN.out.1, HN.out.2]; rfl
        go_wp2
        go_roundw
        case rel => exact ⟨i + 1, by omega, by simp, HT, HB1⟩
        case measure => simp [intOf]; omega
    · have hd : decide ((i : Int) < (l.length : Int)) = false := by simp; omega
      have HE : Hid (l.filter (keepB l') = l) := by
        have := HA.out
        rw [List.take_of_length_le (by omega)] at this
        exact this
      go_wp2
      all_goals (go_ret; exact ⟨.inl ⟨rfl, HE.out⟩, HW.out⟩)

end Go.Proofs.Ytgdbcdddcejehaa
