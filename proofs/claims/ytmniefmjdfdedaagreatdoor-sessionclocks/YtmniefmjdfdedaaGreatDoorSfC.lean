/- The document's clock: out. -/
import Derived.Test.YtmniefmjdfdedaaGreatDoorSfB
namespace Go.Proofs.YtmniefmjdfdedaaGreatDoor
open Go.RowKit Go.Shelf
set_option maxRecDepth 8000
set_option linter.unusedSimpArgs false

theorem row_ne {w : World} {B B' : Nat} {T E : TypeId} {z z' n n' : Nat} {v v' : Value} {xs xs' : List Value} (h : w.ownsRow B T z v n xs) (h' : w.ownsRow B' E z' v' n' xs') (hTE : T ≠ E) {g : Nat} (e : v.ownBlock = some g) (e' : v'.ownBlock = some g) : False := by
  obtain ⟨cs, q⟩ := rowT h e
  obtain ⟨cs', q'⟩ := rowT h' e'
  rw [q] at q'
  simp at q'
  exact hTE q'.2
/-- Two lists that grow side by side. -/
structure Tw (w wr : World) (vs vb : Value) (l : List DcT) : Prop where
  so : OS wr w.heap.size vs (l.map ssD)
  bo : OB wr w.heap.size vb (l.map (·.2.2))
  kp : Below w.heap.size w wr
theorem Tw.start {w wr : World} (h : Below w.heap.size w wr) : Tw w wr (.slice none 0 0) (.slice none 0 0) [] := ⟨World.ownsRow_nil _ _ _ _, World.ownsRow_nil _ _ _ _, h⟩
theorem Tw.drewN {w wr : World} {vs vb : Value} {l : List DcT} (h : Tw w wr vs vb l) (n : Nat) : Tw w (wr.drewN n) vs vb l := ⟨h.so, h.bo, ⟨h.kp.os, h.kp.tape, h.kp.output, h.kp.size, h.kp.block⟩⟩
theorem Tw.step {w wr : World} {vs vb : Value} {l : List DcT} (h : Tw w wr vs vb l) (x : DcT) (hl : l.length ≤ 2000000000) :
    ∃ v1 w1, (∀ ty, (Builtin.append_ #[49, 49] ty #[vs, .slice (some ⟨wr.heap.size, 0, none⟩) 1 1]).run Tryz.prog (wr.alloc (.cells #[.int .i64 x.1, .int .i32 x.2.1] 93)) = .ok v1 w1) ∧ (∃ a n c, v1 = .slice a n c) ∧ Hid (Below w.heap.size w w1) ∧
      ∃ v2 w2, (∀ ty, (Builtin.append_ #[50, 50] ty #[vb, .slice (some ⟨w1.heap.size, 0, none⟩) 1 1]).run Tryz.prog (w1.alloc (.cells #[.int .i64 x.2.2] 3)) = .ok v2 w2) ∧ (∃ a n c, v2 = .slice a n c) ∧ Hid (Tw w w2 v1 v2 (l ++ [x])) := by
  have B1 : Below wr.heap.size wr (wr.alloc (.cells #[.int .i64 x.1, .int .i32 x.2.1] 93)) := (Below.refl _ _).alloc (Nat.le_refl _) _
  have so1 : OS (wr.alloc (.cells #[.int .i64 x.1, .int .i32 x.2.1] 93)) w.heap.size vs (l.map ssD) := rowK h.so (Below.kept B1) (fun k hk => by have := (h.so.lt k hk).2; omega)
  have bo1 : OB (wr.alloc (.cells #[.int .i64 x.1, .int .i32 x.2.1] 93)) w.heap.size vb (l.map (·.2.2)) := rowK h.bo (Below.kept B1) (fun k hk => by have := (h.bo.lt k hk).2; omega)
  have kp1 : Below w.heap.size w (wr.alloc (.cells #[.int .i64 x.1, .int .i32 x.2.1] 93)) := h.kp.trans (B1.mono h.kp.size)
  obtain ⟨v1, w1, hap, so2, k2⟩ := app_s (x := (x.1, x.2.1)) so1 (heap_alloc_new _ _) (by simp; omega) kp1.size
  have bo2 : OB w1 w.heap.size vb (l.map (·.2.2)) := rowK bo1 k2 (fun k e e' => row_ne so1 bo1 (by decide) e' e)
  have kp2 : Below w.heap.size w w1 := kp1.trans (k2.below kp1.size (fun k e => (so1.lt k e).1))
  refine ⟨v1, w1, hap, ?_, kp2, ?_⟩
  · obtain ⟨a, c, e⟩ := rowS so2
    exact ⟨a, _, c, e⟩
  · have B3 : Below w1.heap.size w1 (w1.alloc (.cells #[.int .i64 x.2.2] 3)) := (Below.refl _ _).alloc (Nat.le_refl _) _
    have so3 := rowK so2 (Below.kept B3) (fun k hk => by have := (so2.lt k hk).2; omega)
    have bo3 : OB (w1.alloc (.cells #[.int .i64 x.2.2] 3)) w.heap.size vb (l.map (·.2.2)) := rowK bo2 (Below.kept B3) (fun k hk => by have := (bo2.lt k hk).2; omega)
    have kp3 : Below w.heap.size w (w1.alloc (.cells #[.int .i64 x.2.2] 3)) := kp2.trans (B3.mono kp2.size)
    obtain ⟨v2, w2, hap2, bo4, k4⟩ := app_b (x := x.2.2) bo3 (heap_alloc_new _ _) (by simp; omega) kp3.size
    refine ⟨v2, w2, hap2, ?_, ?_, ?_, kp3.trans (k4.below kp3.size (fun k e => (bo3.lt k e).1))⟩
    · obtain ⟨a, c, e⟩ := rowS bo4
      exact ⟨a, _, c, e⟩
    · have := rowK so3 k4 (fun k e e' => row_ne so3 bo3 (by decide) e e')
      unfold OS
      rw [List.map_append]
      exact this
    · unfold OB
      rw [List.map_append]
      exact bo4

/-- The two lists laid into the clock. -/
theorem Tw.laid {w wr : World} {d : Nat} {vs vb sv bv : Value} {now span : Int} {l dl : List DcT} (h : Tw w wr vs vb l) (hd : Dc w d sv bv now span dl) :
    Dc ((wr.setCell ⟨d, 2, none⟩ vs).setCell ⟨d, 3, none⟩ vb) d vs vb now span l ∧ Kept w ((wr.setCell ⟨d, 2, none⟩ vs).setCell ⟨d, 3, none⟩ vb) (fun k => k = d) ∧ (∀ k, FtD d vs vb k → k = d ∨ w.heap.size ≤ k) := by
  have hdl := lt_of_block hd.row
  have r0 : wr.heap[d]? = some (.cells #[.int .i64 now, .int .i64 span, sv, bv] 52 (0, 0)) := (Below.kept h.kp).heap hd.row (by omega)
  have k1 : Kept wr (wr.setCell ⟨d, 2, none⟩ vs) (fun k => k = d) := (Kept.refl wr _).setCell _ _ (fun _ => rfl)
  have r1 : (wr.setCell ⟨d, 2, none⟩ vs).heap[d]? = some (.cells #[.int .i64 now, .int .i64 span, vs, bv] 52 (0, 0)) := by rw [setCell_eq_setRow wr d 2 _ _ _ _ r0, setRow_heap wr d _ _ _ _ r0]; rfl
  have k2 : Kept wr ((wr.setCell ⟨d, 2, none⟩ vs).setCell ⟨d, 3, none⟩ vb) (fun k => k = d) := k1.setCell _ _ (fun _ => rfl)
  have r2 : ((wr.setCell ⟨d, 2, none⟩ vs).setCell ⟨d, 3, none⟩ vb).heap[d]? = some (.cells #[.int .i64 now, .int .i64 span, vs, vb] 52 (0, 0)) := by rw [setCell_eq_setRow _ d 3 _ _ _ _ r1, setRow_heap _ d _ _ _ _ r1]; rfl
  refine ⟨⟨r2, rowLow (rowK h.so k2 (fun k e q => ?_)) (Nat.zero_le _), rowLow (rowK h.bo k2 (fun k e q => ?_)) (Nat.zero_le _)⟩, ?_, ?_⟩
  · have := (h.so.lt k e).1; omega
  · have := (h.bo.lt k e).1; omega
  · exact ((Below.kept h.kp).mono (fun k q1 q2 => by omega)).trans k2 (fun _ _ q => q)
  · intro k hk
    rcases hk with rfl | e | e
    · exact .inl rfl
    · exact .inr (h.so.lt k e).1
    · exact .inr (h.bo.lt k e).1

theorem take_erase {dl : List DcT} {i k : Nat} {x : DcT} (hx : dl[i]? = some x) : (dl.take (i + 1)).eraseIdx k = if i = k then (dl.take i).eraseIdx k else (dl.take i).eraseIdx k ++ [x] := by
  obtain ⟨hi, e⟩ := List.getElem?_eq_some_iff.1 hx
  rw [List.take_add_one, hx]
  have hl : (dl.take i).length = i := by simp; omega
  by_cases h : i = k
  · subst h
    rw [if_pos rfl, List.eraseIdx_append_of_length_le (by omega), hl, Nat.sub_self, List.eraseIdx_of_length_le (by omega : (dl.take i).length ≤ i)]
    simp
  · rw [if_neg h]
    by_cases h2 : k < i
    · rw [List.eraseIdx_append_of_lt_length (by omega)]; rfl
    · rw [List.eraseIdx_of_length_le (by simp; omega), List.eraseIdx_of_length_le (by omega)]; rfl

set_option maxHeartbeats 2000000 in
theorem refOut {w : World} {d : Nat} {sv bv : Value} {now span : Int} {dl : List DcT} (h : Dc w d sv bv now span dl) (k : Nat) (hl : dl.length ≤ 1000) :
    Calls Tryz.prog 31 #[.pointer (some ⟨d, 0, none⟩), .int .i64 (k : Int)] w fun e w' => e = .returned (.tuple #[]) ∧ ∃ vs vb, Hid (Dc w' d vs vb now span (dl.eraseIdx k) ∧ Kept w w' (fun k => k = d) ∧ (∀ k, FtD d vs vb k → k = d ∨ w.heap.size ≤ k)) := by
  have H : Hid (Dc w d sv bv now span dl) := h
  have hdz := lt_of_block h.row
  have C2 : Hid (∀ wr, Below w.heap.size w wr → Dc wr d sv bv now span dl) := fun wr hb => H.out.kept (Below.kept hb) (fun k hk => by have := H.out.lt hk; omega)
  obtain ⟨sa, sc, rfl⟩ := h.sv
  obtain ⟨ba, bc, rfl⟩ := h.bv
  clear h
  go_enter Tryz.func31, Tryz.ntmps31
  go_wp2
  go_loopw [4, 5, 6] (fun vs vb vi wr => ∃ i : Nat, i ≤ dl.length ∧ vi = .int .i64 (i : Int) ∧ Hid (Tw w wr vs vb ((dl.take i).eraseIdx k))) (fun _ _ vi _ => 1000 - (intOf vi).toNat)
  case atStart => exact ⟨0, by omega, rfl, by rw [show (dl.take 0).eraseIdx k = [] by simp]; exact Tw.start (Below.refl _ _)⟩
  case round =>
    obtain ⟨i, hi, rfl, HT⟩ := hrel
    have HC : Hid _ := C2.out wr HT.out.kp
    have c2 := HC.out.c2
    have c3 := HC.out.c3
    have hz : d < wr.heap.size := lt_of_block HC.out.row
    obtain ⟨xa, xn, xc, rfl⟩ : ∃ a n c, u4 = .slice a n c := by
      obtain ⟨a, c, e⟩ := rowS HT.out.so
      exact ⟨a, _, c, e⟩
    obtain ⟨ya, yn, yc, rfl⟩ : ∃ a n c, u5 = .slice a n c := by
      obtain ⟨a, c, e⟩ := rowS HT.out.bo
      exact ⟨a, _, c, e⟩
    by_cases hlt : i < dl.length
    · have hd : decide ((i : Int) < (dl.length : Int)) = true := by simp; omega
      obtain ⟨x, hx⟩ : ∃ x, dl[i]? = some x := ⟨_, List.getElem?_eq_getElem hlt⟩
      obtain ⟨g, cap, e, hcap, k1, k2⟩ := HC.out.at hx
      simp only [Value.slice.injEq, true_and] at e
      obtain ⟨rfl, rfl⟩ := e
      have hte := take_erase (k := k) hx
      by_cases hik : i = k
      · have hne : ((i : Int) != (k : Int)) = false := by simp; omega
        rw [if_pos hik] at hte
        have HN : Hid (Tw w wr (.slice xa xn xc) (.slice ya yn yc) ((dl.take (i + 1)).eraseIdx k)) := by rw [hte]; exact HT
        clear HT HC hte hx k1 k2
        go_wp2
        go_roundw
        case rel => exact ⟨i + 1, by omega, by simp <;> omega, HN⟩
        case measure => simp [intOf] <;> omega
      · have hne : ((i : Int) != (k : Int)) = true := by simp; omega
        rw [if_neg hik] at hte
        have hlen : ((dl.take i).eraseIdx k).length ≤ 2000000000 := Nat.le_trans (List.length_eraseIdx_le _ _) (by simp; omega)
        obtain ⟨v1, w1, hap1, ⟨aa, an, ac, rfl⟩, HB1, v2, w2, hap2, ⟨ca, cn, cc, rfl⟩, HT2⟩ := HT.out.step x hlen
        have HN : Hid (Tw w w2 (.slice aa an ac) (.slice ca cn cc) ((dl.take (i + 1)).eraseIdx k)) := by rw [hte]; exact HT2
        have HC1 : Hid _ := C2.out w1 HB1.out
        have c31 := HC1.out.c3
        have hz1 : d < w1.heap.size := lt_of_block HC1.out.row
        obtain ⟨g', cap', e', hcap', k3, _⟩ := HC1.out.bt hx
        simp only [Value.slice.injEq, true_and] at e'
        obtain ⟨rfl, rfl⟩ := e'
        have ige : (0 : Int) ≤ (i : Int) := by omega
        have ilt : (i : Int) < (dl.length : Int) := by omega
        have hg : g < wr.heap.size := World.block_lt_of_cell? wr _ k1
        have hg' : g' < w1.heap.size := World.block_lt_of_cell? w1 _ k3
        clear HT HC hte hx HT2 HB1 HC1 c3
        go_wp2_with (at_builtin; first | refine Lib.wpList_append_run_sl _ rfl _ _ 49 rfl _ _ rfl rfl (hap1 _) ?_ | refine Lib.wpList_append_run_sl _ rfl _ _ 50 rfl _ _ rfl rfl (hap2 _) ?_)
        go_roundw
        case rel => exact ⟨i + 1, by omega, by simp <;> omega, HN⟩
        case measure => simp [intOf] <;> omega
    · have hd : decide ((i : Int) < (dl.length : Int)) = false := by simp; omega
      have hte : (dl.take i).eraseIdx k = dl.eraseIdx k := by rw [List.take_of_length_le (by omega)]
      have HE : Hid _ := HT.out.laid H.out
      rw [hte] at HE
      have fz2 : wr.frozen? ⟨d, 2, none⟩ = false := by simp [World.frozen?, HC.out.row]
      have fz3 : (wr.setCell ⟨d, 2, none⟩ (.slice xa xn xc)).frozen? ⟨d, 3, none⟩ = false := by
        have r0 := HC.out.row
        rw [setCell_eq_setRow wr d 2 _ _ _ _ r0]
        simp [World.frozen?, setRow_heap wr d _ _ _ _ r0]
      clear HT HC hte
      go_wp2
      all_goals (go_end0; exact ⟨rfl, _, _, HE⟩)

end Go.Proofs.YtmniefmjdfdedaaGreatDoor
