/- The document's clock in memory: at, due, out. -/
import Derived.Test.YtmniefmjdfdedaaGreatDoorSfA
import Derived.Deep.RegionHeld
namespace Go.Proofs.YtmniefmjdfdedaaGreatDoor
open Go.RowKit Go.Shelf
set_option maxRecDepth 8000
set_option linter.unusedSimpArgs false

theorem Tryz.infoIn : (Tryz.prog.info? 3).map (fun i => (i.zero, i.size, i.bytes)) = some (some (.int .i64 0), 1, 8) := by kernel_rfl
/-- A list of numbers of one's own. -/
abbrev OB (w : World) (base : Nat) (v : Value) (l : List Int) : Prop := w.ownsRow base 3 1 v l.length (l.map (Value.int .i64))
theorem app_b {w : World} {base m : Nat} {v : Value} {l : List Int} {x : Int} (ho : OB w base v l) (hm : w.heap[m]? = some (.cells #[.int .i64 x] 3 (0, 0))) (hl : l.length ≤ 2000000000) (hb : base ≤ w.heap.size) :
    ∃ v' w', (∀ ty, (Builtin.append_ #[50, 50] ty #[v, .slice (some ⟨m, 0, none⟩) 1 1]).run Tryz.prog w = .ok v' w') ∧ OB w' base v' (l ++ [x]) ∧ Kept w w' (fun k => v.ownBlock = some k) := by
  obtain ⟨i, hi, hz, hs, hby⟩ := infoX Tryz.infoIn
  obtain ⟨v', w', h1, h2, h3, h4⟩ := app_row (P := Tryz.prog) base 50 50 3 i _ 1 8 Tryz.underlying50 hi hz hs hby rfl (by decide) v l.length (l.map (Value.int .i64)) ho m [.int .i64 x] rfl hm (by simp [Value.oneCell']) hl (by decide) hb
  refine ⟨v', w', fun ty => h1, ?_, ⟨h3.os, h3.tape, h3.output, h3.size, fun k hk hn => h3.block k hk (fun e => hn e.symm)⟩⟩
  unfold OB
  rw [List.length_append, List.map_append]
  exact h2
theorem rowLow {w : World} {B B' : Nat} {T : TypeId} {z n : Nat} {v : Value} {xs : List Value} (h : w.ownsRow B T z v n xs) (hb : B' ≤ B) : w.ownsRow B' T z v n xs := by
  obtain ⟨h1, h2 | ⟨g, cap, cur, rfl, a2, a3⟩⟩ := h
  · exact ⟨h1, .inl h2⟩
  · exact ⟨h1, .inr ⟨g, cap, cur, rfl, by omega, a3⟩⟩

def ssD (x : DcT) : Int × Int := (x.1, x.2.1)
/-- The document's clock: its row and its two lists. -/
structure Dc (w : World) (d : Nat) (sv bv : Value) (now span : Int) (dl : List DcT) : Prop where
  row : w.heap[d]? = some (.cells #[.int .i64 now, .int .i64 span, sv, bv] 52 (0, 0))
  so : OS w 0 sv (dl.map ssD)
  bo : OB w 0 bv (dl.map (·.2.2))
/-- Its blocks. -/
def FtD (d : Nat) (sv bv : Value) (k : Nat) : Prop := k = d ∨ sv.ownBlock = some k ∨ bv.ownBlock = some k
theorem Dc.kept {w w' : World} {S : Nat → Prop} {d : Nat} {sv bv : Value} {now span : Int} {dl : List DcT} (h : Dc w d sv bv now span dl) (hk : Kept w w' S) (hn : ∀ k, FtD d sv bv k → ¬ S k) : Dc w' d sv bv now span dl :=
  ⟨hk.heap h.row (hn d (.inl rfl)), rowK h.so hk (fun g e => hn g (.inr (.inl e))), rowK h.bo hk (fun g e => hn g (.inr (.inr e)))⟩
theorem Dc.drewN {w : World} {d : Nat} {sv bv : Value} {now span : Int} {dl : List DcT} (h : Dc w d sv bv now span dl) (n : Nat) : Dc (w.drewN n) d sv bv now span dl := ⟨h.row, h.so, h.bo⟩
theorem Dc.lt {w : World} {d : Nat} {sv bv : Value} {now span : Int} {dl : List DcT} (h : Dc w d sv bv now span dl) {k : Nat} (hk : FtD d sv bv k) : k < w.heap.size := by
  rcases hk with rfl | e | e
  · exact lt_of_block h.row
  · exact (h.so.lt k e).2
  · exact (h.bo.lt k e).2
theorem Dc.c0 {w : World} {d : Nat} {sv bv : Value} {now span : Int} {dl : List DcT} (h : Dc w d sv bv now span dl) : w.cell? ⟨d, 0, none⟩ = some (.int .i64 now) := by rw [cell_of_row w d 0 _ _ _ h.row]; rfl
theorem Dc.c1 {w : World} {d : Nat} {sv bv : Value} {now span : Int} {dl : List DcT} (h : Dc w d sv bv now span dl) : w.cell? ⟨d, 1, none⟩ = some (.int .i64 span) := by rw [cell_of_row w d 1 _ _ _ h.row]; rfl
theorem Dc.c2 {w : World} {d : Nat} {sv bv : Value} {now span : Int} {dl : List DcT} (h : Dc w d sv bv now span dl) : w.cell? ⟨d, 2, none⟩ = some sv := by rw [cell_of_row w d 2 _ _ _ h.row]; rfl
theorem Dc.c3 {w : World} {d : Nat} {sv bv : Value} {now span : Int} {dl : List DcT} (h : Dc w d sv bv now span dl) : w.cell? ⟨d, 3, none⟩ = some bv := by rw [cell_of_row w d 3 _ _ _ h.row]; rfl
theorem Dc.sv {w : World} {d : Nat} {sv bv : Value} {now span : Int} {dl : List DcT} (h : Dc w d sv bv now span dl) : ∃ a c, sv = .slice a dl.length c := by
  obtain ⟨a, c, e⟩ := rowS h.so
  rw [List.length_map] at e
  exact ⟨a, c, e⟩
theorem Dc.bv {w : World} {d : Nat} {sv bv : Value} {now span : Int} {dl : List DcT} (h : Dc w d sv bv now span dl) : ∃ a c, bv = .slice a dl.length c := by
  obtain ⟨a, c, e⟩ := rowS h.bo
  rw [List.length_map] at e
  exact ⟨a, c, e⟩
/-- A cell of a row of one's own. -/
theorem row_cell {w : World} {B : Nat} {T : TypeId} {z n : Nat} {v : Value} {xs : List Value} (h : w.ownsRow B T z v n xs) {j : Nat} {u : Value} (hj : xs[j]? = some u) : ∃ g cap, v = .slice (some ⟨g, 0, none⟩) n cap ∧ n ≤ cap ∧ w.cell? ⟨g, j, none⟩ = some u ∧ w.frozen? ⟨g, j, none⟩ = false := by
  obtain ⟨h1, ⟨rfl, h0⟩ | ⟨g, cap, cur, rfl, a2, a3, a4, a5, a6, a7⟩⟩ := h
  · rw [h0, Nat.zero_mul] at h1
    rw [List.length_eq_zero_iff.1 h1] at hj
    simp at hj
  · refine ⟨g, cap, rfl, a4, ?_, by simp [World.frozen?, a3]⟩
    rw [cell_of_row w g j _ _ _ a3, ← Array.getElem?_toList]
    rw [← a7, List.getElem?_take] at hj
    split at hj
    · exact hj
    · cases hj
theorem ss_at {l : List (Int × Int)} {i : Nat} {x : Int × Int} (h : l[i]? = some x) : (l.flatMap ssL)[i * 2]? = some (.int .i64 x.1) ∧ (l.flatMap ssL)[i * 2 + 1]? = some (.int .i32 x.2) := by
  obtain ⟨hi, e⟩ := List.getElem?_eq_some_iff.1 h
  rw [flat_get l _ (by omega), flat_get l _ (by omega), show i * 2 / 2 = i by omega, show (i * 2 + 1) / 2 = i by omega, show i * 2 % 2 = 0 by omega, show (i * 2 + 1) % 2 = 1 by omega]
  simp [hi, e, ssL]
theorem Dc.at {w : World} {d : Nat} {sv bv : Value} {now span : Int} {dl : List DcT} (h : Dc w d sv bv now span dl) {i : Nat} {x : DcT} (hx : dl[i]? = some x) :
    ∃ g cap, sv = .slice (some ⟨g, 0, none⟩) dl.length cap ∧ dl.length ≤ cap ∧ w.cell? ⟨g, i * 2, none⟩ = some (.int .i64 x.1) ∧ w.cell? ⟨g, i * 2 + 1, none⟩ = some (.int .i32 x.2.1) := by
  have h1 := ss_at (l := dl.map ssD) (i := i) (x := ssD x) (by simp [hx])
  obtain ⟨g, cap, e, e2, e3, _⟩ := row_cell h.so h1.1
  obtain ⟨g', cap', e', _, e3', _⟩ := row_cell h.so h1.2
  rw [e'] at e
  simp only [Value.slice.injEq, Option.some.injEq, Addr.mk.injEq, and_true, true_and] at e
  obtain ⟨rfl, rfl⟩ := e
  rw [List.length_map] at e' e2
  exact ⟨_, _, e', e2, e3, e3'⟩
theorem Dc.bt {w : World} {d : Nat} {sv bv : Value} {now span : Int} {dl : List DcT} (h : Dc w d sv bv now span dl) {i : Nat} {x : DcT} (hx : dl[i]? = some x) :
    ∃ g cap, bv = .slice (some ⟨g, 0, none⟩) dl.length cap ∧ dl.length ≤ cap ∧ w.cell? ⟨g, i, none⟩ = some (.int .i64 x.2.2) ∧ w.frozen? ⟨g, i, none⟩ = false := by
  obtain ⟨g, cap, e, e2, e3, e4⟩ := row_cell (j := i) h.bo (by simp [hx]; rfl)
  rw [List.length_map] at e e2
  exact ⟨g, cap, e, e2, e3, e4⟩

/-- Where a session stands. -/
def AtD (dl : List DcT) (id k : Int) : Prop := (k = -1 ∧ id ∉ idD dl) ∨ ∃ a y b, dl = a ++ y :: b ∧ k = (a.length : Int) ∧ y.1 = id

set_option maxHeartbeats 1000000 in
theorem refAt {w : World} {d : Nat} {sv bv : Value} {now span : Int} {dl : List DcT} (h : Dc w d sv bv now span dl) (id : Int) (hl : dl.length ≤ 1000) :
    Calls Tryz.prog 30 #[.pointer (some ⟨d, 0, none⟩), .int .i64 id] w fun e w' => ∃ k, e = .returned (.int .i64 k) ∧ AtD dl id k ∧ w' = w := by
  have H : Hid (Dc w d sv bv now span dl) := h
  have c2 := h.c2
  have hz := lt_of_block h.row
  obtain ⟨sa, sc, rfl⟩ := h.sv
  clear h
  go_enter Tryz.func30, Tryz.ntmps30
  go_wp2
  go_loopw [5] (fun vi wr => ∃ i : Nat, i ≤ dl.length ∧ vi = .int .i64 (i : Int) ∧ wr = w ∧ Hid (∀ j x, j < i → dl[j]? = some x → x.1 ≠ id)) (fun vi _ => 1000 - (intOf vi).toNat)
  case atStart => exact ⟨0, by omega, rfl, rfl, fun j _ hj => by omega⟩
  case round =>
    obtain ⟨i, hi, rfl, hw, HI⟩ := hrel
    subst hw
    by_cases hlt : i < dl.length
    · have hd : decide ((i : Int) < (dl.length : Int)) = true := by simp; omega
      obtain ⟨x, hx⟩ : ∃ x, dl[i]? = some x := ⟨_, List.getElem?_eq_getElem hlt⟩
      obtain ⟨g, cap, e, hcap, k1, k2⟩ := H.out.at hx
      simp only [Value.slice.injEq, true_and] at e
      obtain ⟨rfl, rfl⟩ := e
      have hg : g < wr.heap.size := World.block_lt_of_cell? wr _ k1
      have ige : (0 : Int) ≤ (i : Int) := by omega
      have ilt : (i : Int) < (dl.length : Int) := by omega
      have HX : Hid (dl[i]? = some x) := hx
      clear hx k2
      cases he : (x.1 == id)
      · have hne : x.1 ≠ id := by simpa using he
        have HN : Hid (∀ j y, j < i + 1 → dl[j]? = some y → y.1 ≠ id) := fun j y hj hy => by
          by_cases e : j = i
          · subst e; rw [HX.out] at hy; cases hy; exact hne
          · exact HI.out j y (by omega) hy
        clear hne
        go_wp2
        go_roundw
        case rel => exact ⟨i + 1, by omega, by simp, by first | rfl | trivial, HN⟩
        case measure => simp [intOf] <;> omega
      · have hee : x.1 = id := by simpa using he
        have HE : Hid (AtD dl id (i : Int)) := by
          obtain ⟨hi2, e⟩ := List.getElem?_eq_some_iff.1 HX.out
          refine .inr ⟨dl.take i, x, dl.drop (i + 1), ?_, by simp; omega, hee⟩
          rw [← e, ← List.drop_eq_getElem_cons hi2, List.take_append_drop]
        clear hee
        go_wp2
        all_goals (go_ret; exact ⟨_, rfl, HE.out, rfl⟩)
    · have hd : decide ((i : Int) < (dl.length : Int)) = false := by simp; omega
      have HE : Hid (AtD dl id (-1)) := .inl ⟨rfl, fun hm => by
        obtain ⟨x, hx, e⟩ := List.mem_map.1 hm
        obtain ⟨j, hj⟩ := List.getElem?_of_mem hx
        exact HI.out j x (by have := (List.getElem?_eq_some_iff.1 hj).1; omega) hj e⟩
      go_wp2
      all_goals (go_ret; exact ⟨_, rfl, HE.out, rfl⟩)

/-- Multiple by multiple. -/
theorem mult_step {t least span : Int} (h1 : 1 ≤ span) (hm : t % span = 0) (hb : t < least + span) (hl : least ≤ t) (hp : 0 ≤ least) : t = upT least span := by
  obtain ⟨q1, q2, q3⟩ := upT_bounds (t := least) hp h1
  have e1 : t = span * (t / span) := by have := Int.mul_ediv_add_emod t span; omega
  have e2 : upT least span = span * (upT least span / span) := by have := Int.mul_ediv_add_emod (upT least span) span; omega
  have : t / span = upT least span / span := by
    generalize t / span = x at e1
    generalize upT least span / span = y at e2
    have h3 : span * x - span * y < span := by omega
    have h4 : span * y - span * x < span := by omega
    rw [← Int.mul_sub] at h3 h4
    by_cases hxy : x = y
    · exact hxy
    · exfalso
      rcases Int.lt_or_gt_of_ne hxy with q | q
      · have := Int.mul_le_mul_of_nonneg_left (show 1 ≤ y - x by omega) (show 0 ≤ span by omega); omega
      · have := Int.mul_le_mul_of_nonneg_left (show 1 ≤ x - y by omega) (show 0 ≤ span by omega); omega
  rw [e1, e2, this]

set_option maxHeartbeats 2000000 in
theorem refDue {w : World} {d : Nat} {sv bv : Value} {now span : Int} {dl : List DcT} (h : Dc w d sv bv now span dl) {i : Nat} {x : DcT} (hx : dl[i]? = some x) (h1 : 1 ≤ span) (h2 : span ≤ 1000) (h3 : 0 ≤ x.2.2) (h4 : x.2.2 ≤ 4000000000000000000) (h5 : 1 ≤ x.2.1) (h6 : x.2.1 ≤ 1000) :
    Calls Tryz.prog 32 #[.pointer (some ⟨d, 0, none⟩), .int .i64 (i : Int)] w fun e w' => e = .returned (.int .i64 (upT (x.2.2 + x.2.1) span)) ∧ Hid (Kept w w' (fun _ => False)) := by
  have c1 := h.c1
  have c2 := h.c2
  have c3 := h.c3
  have hz := lt_of_block h.row
  have hlt := (List.getElem?_eq_some_iff.1 hx).1
  obtain ⟨g, cap, rfl, hcap, k1, k2⟩ := h.at hx
  obtain ⟨g', cap', rfl, hcap', k3, _⟩ := h.bt hx
  have hg : g < w.heap.size := World.block_lt_of_cell? w _ k1
  have hg' : g' < w.heap.size := World.block_lt_of_cell? w _ k3
  have ige : (0 : Int) ≤ (i : Int) := by omega
  have ilt : (i : Int) < (dl.length : Int) := by omega
  obtain ⟨xi, xt, xb⟩ := x
  simp only at h3 h4 h5 h6 k1 k2 k3
  have hs0 : span ≠ 0 := by omega
  have hr1 : 0 ≤ xb % span := Int.emod_nonneg _ (by omega)
  have hr2 : xb % span < span := Int.emod_lt_of_pos _ (by omega)
  have hr3 : xb % span ≤ xb := by have := Int.mul_ediv_add_emod xb span; have := Int.mul_nonneg (show 0 ≤ span by omega) (Int.ediv_nonneg h3 (show 0 ≤ span by omega)); omega
  have C1 : Hid (w.cell? ⟨d, 1, none⟩ = some (.int .i64 span)) := c1
  clear h hx k1
  go_enter Tryz.func32, Tryz.ntmps32
  go_wp2
  go_quiet (fail)
  go_wp2
  go_quiet (fail)
  go_wp2
  clear c1 c2 c3 k2 k3 hg hg' hcap hcap' ige ilt
  go_loopw [6] (fun vt wr => ∃ t : Int, vt = .int .i64 t ∧ 0 ≤ t ∧ xb - span < t ∧ t < xb + xt + span ∧ Hid (t % span = 0 ∧ Kept w wr (fun _ => False))) (fun vt _ => 4000000000000010000 - (intOf vt).toNat)
  case atStart => exact ⟨_, rfl, by omega, by omega, by omega, by rw [Int.sub_emod, Int.emod_emod_of_dvd _ (Int.dvd_refl _)]; simp, (Kept.refl w _).drewN _ |>.drewN _⟩
  case round =>
    obtain ⟨t, rfl, ht1, ht2, ht3, HT⟩ := hrel
    have c1 : wr.cell? ⟨d, 1, none⟩ = some (.int .i64 span) := HT.out.2.cell C1.out (fun h => h)
    have hz2 : d < wr.heap.size := World.block_lt_of_cell? wr _ c1
    by_cases hlt2 : t < xb + xt
    · have hd : decide (t < xb + xt) = true := by simp; omega
      have HN : Hid ((t + span) % span = 0 ∧ Kept w wr (fun _ => False)) := ⟨by rw [Int.add_emod_right]; exact HT.out.1, HT.out.2⟩
      clear HT
      go_wp2
      go_roundw
      case rel => exact ⟨_, rfl, by omega, by omega, by omega, HN⟩
      case measure => simp [intOf] <;> omega
    · have hd : decide (t < xb + xt) = false := by simp; omega
      have he : t = upT (xb + xt) span := mult_step h1 HT.out.1 (by omega) (by omega) (by omega)
      have HE : Hid (t = upT (xb + xt) span ∧ Kept w wr (fun _ => False)) := ⟨he, HT.out.2⟩
      clear HT he c1
      go_wp2
      all_goals (go_ret; exact ⟨by rw [← HE.out.1]; rfl, HE.out.2⟩)

end Go.Proofs.YtmniefmjdfdedaaGreatDoor
