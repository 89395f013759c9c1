/- The document's clock: New, Touch, Remove, Due, Add. -/
import Derived.Test.YtmniefmjdfdedaaGreatDoorSgA
import Derived.Laws.OwnMore
namespace Go.Proofs.YtmniefmjdfdedaaGreatDoor
open Go.RowKit Go.Shelf
set_option maxRecDepth 8000
set_option linter.unusedSimpArgs false

/-- What a call of the document's clock leaves. -/
def DcTo (w w' : World) (d : Nat) (sv bv : Value) (now span : Int) (dl : List DcT) : Prop := ∃ vs vb, Dc w' d vs vb now span dl ∧ Kept w w' (FtD d sv bv) ∧ ∀ k, FtD d vs vb k → FtD d sv bv k ∨ w.heap.size ≤ k
theorem DcTo.stay {w w' : World} {d : Nat} {sv bv : Value} {now span : Int} {dl : List DcT} (h : Dc w d sv bv now span dl) (hk : Kept w w' (fun _ => False)) : DcTo w w' d sv bv now span dl := ⟨sv, bv, h.kept hk (fun _ _ e => e), hk.mono (fun _ _ e => e.elim), fun _ e => .inl e⟩

theorem refNewC (span : Int) (w : World) (h1 : 1 ≤ span) (h2 : span ≤ 1000) : Calls Tryz.prog 6 #[.int .i64 span] w fun e w' => e = .returned (.tuple #[.pointer (some ⟨w.heap.size, 0, none⟩), .int .i64 0]) ∧ Dc w' w.heap.size (.slice none 0 0) (.slice none 0 0) 0 span [] ∧ Below w.heap.size w w' := by
  have d1 : decide (span < 1) = false := by simp; omega
  have d2 : decide (1000 < span) = false := by simp; omega
  have HX : Hid (Dc (w.alloc (.cells #[.int .i64 0, .int .i64 span, .slice none 0 0, .slice none 0 0] 52)) w.heap.size (.slice none 0 0) (.slice none 0 0) 0 span [] ∧ ∀ o, Below w.heap.size w (w.alloc o)) :=
    ⟨⟨heap_alloc_new _ _, World.ownsRow_nil _ _ _ _, World.ownsRow_nil _ _ _ _⟩, fun o => (Below.refl _ w).alloc (Nat.le_refl _) o⟩
  go_enter Tryz.func6, Tryz.ntmps6
  go_wp2
  all_goals (go_ret2; exact ⟨rfl, HX.out.1, HX.out.2 _⟩)
theorem refNewC_no (span : Int) (w : World) (h : span < 1 ∨ 1000 < span) : Calls Tryz.prog 6 #[.int .i64 span] w fun e w' => e = .returned (.tuple #[.pointer none, .int .i64 1]) ∧ w' = w := by
  by_cases h1 : span < 1
  · go_enter Tryz.func6, Tryz.ntmps6
    go_wp2
    all_goals (go_ret2; exact ⟨rfl, rfl⟩)
  · have h2 : 1000 < span := by omega
    go_enter Tryz.func6, Tryz.ntmps6
    go_wp2
    all_goals (go_ret2; exact ⟨rfl, rfl⟩)

theorem Dc.touch {w : World} {d : Nat} {sv : Value} {now span : Int} {a b : List DcT} {y : DcT} {g n cap : Nat} (h : Dc w d sv (.slice (some ⟨g, 0, none⟩) n cap) now span (a ++ y :: b)) :
    Dc (w.setCell ⟨g, a.length, none⟩ (.int .i64 now)) d sv (.slice (some ⟨g, 0, none⟩) n cap) now span (a ++ (y.1, y.2.1, now) :: b) := by
  have hb := h.bo
  have hn : n = (a ++ y :: b).length := by
    obtain ⟨x, c, e⟩ := h.bv
    simp only [Value.slice.injEq] at e
    exact e.2.1
  subst hn
  have hl : ((a ++ y :: b).map (·.2.2)).length = (a ++ y :: b).length := List.length_map _
  unfold OB at hb
  rw [hl] at hb
  have hs := (hb.stored a.length (.int .i64 now)).1
  have hk : Kept w (w.setCell ⟨g, a.length, none⟩ (.int .i64 now)) (fun k => k = g) := (Kept.refl w _).setCell _ _ (fun _ => rfl)
  have hgd : d ≠ g := fun e => by
    obtain ⟨cs, q⟩ := rowT h.bo (g := g) rfl
    rw [← e, h.row] at q
    simp at q
  refine ⟨hk.heap h.row hgd, ?_, ?_⟩
  · have e1 : (a ++ (y.1, y.2.1, now) :: b).map ssD = (a ++ y :: b).map ssD := by simp [ssD]
    rw [e1]
    refine rowK h.so hk (fun k e e2 => ?_)
    have e3 : k = g := e2
    subst e3
    exact row_ne h.so h.bo (by decide) e rfl
  · unfold OB
    have e2 : ((a ++ (y.1, y.2.1, now) :: b).map (·.2.2)).length = (a ++ y :: b).length := by simp
    have e3 : ((a ++ (y.1, y.2.1, now) :: b).map (·.2.2)).map (Value.int .i64) = (((a ++ y :: b).map (·.2.2)).map (Value.int .i64)).set a.length (.int .i64 now) := by
      rw [List.map_append, List.map_append, List.map_append, List.map_append, List.map_cons, List.map_cons, List.map_cons, List.map_cons, List.set_append_right _ _ (by simp)]
      simp
    rw [e2, e3]
    exact hs

theorem refTouch_no {w : World} {d : Nat} {sv bv : Value} {now span : Int} {dl : List DcT} (h : Dc w d sv bv now span dl) (id : Int) (hl : dl.length ≤ 1000) (hy : id ∉ idD dl) :
    Calls Tryz.prog 15 #[.pointer (some ⟨d, 0, none⟩), .int .i64 id] w fun e w' => e = .returned (.int .i64 75) ∧ w' = w := by
  have HA := refAt h id hl
  have HY : Hid (id ∉ idD dl) := hy
  clear h hy
  go_enter Tryz.func15, Tryz.ntmps15
  go_wp2_with fail
  refine Calls.mono HA ?_
  rintro e w1 ⟨k, rfl, hk, hw1⟩
  rw [hw1]
  have hk1 : k = -1 := by
    rcases hk with ⟨e, _⟩ | ⟨a, y, b, rfl, _, e⟩
    · exact e
    · exact absurd (List.mem_map.2 ⟨y, by simp, e⟩) HY.out
  subst hk1
  clear hk hw1 HA
  go_wp2
  all_goals (go_ret; exact ⟨rfl, rfl⟩)
theorem refTouch_yes {w : World} {d : Nat} {sv bv : Value} {now span : Int} {a b : List DcT} {y : DcT} (h : Dc w d sv bv now span (a ++ y :: b)) (hl : (a ++ y :: b).length ≤ 1000) (hup : (a ++ y :: b).Pairwise (fun a b => a.1 < b.1)) :
    Calls Tryz.prog 15 #[.pointer (some ⟨d, 0, none⟩), .int .i64 y.1] w fun e w' => e = .returned (.int .i64 0) ∧ DcTo w w' d sv bv now span (a ++ (y.1, y.2.1, now) :: b) := by
  have HA := refAt h y.1 hl
  have hat : (a ++ y :: b)[a.length]? = some y := by simp
  have HK : Hid (∀ k, AtD (a ++ y :: b) y.1 k → k = (a.length : Int)) := fun k hk => by
    rcases hk with ⟨_, hn⟩ | ⟨a', y', b', e, rfl, e2⟩
    · exact absurd (List.mem_map.2 ⟨y, by simp, rfl⟩) hn
    · have h1 : (a ++ y :: b)[a'.length]? = some y' := by rw [e]; simp
      have := nodup_at (fun z : DcT => z.1) (up_nd hup) h1 hat e2
      rw [this]
  obtain ⟨g, cap, rfl, hcap, k3, f3⟩ := h.bt hat
  have c0 := h.c0
  have c3 := h.c3
  have hz := lt_of_block h.row
  have hg : g < w.heap.size := World.block_lt_of_cell? w _ k3
  have ige : (0 : Int) ≤ (a.length : Int) := by omega
  have hlen : (a ++ y :: b).length = a.length + (b.length + 1) := by simp
  have ilt : (a.length : Int) < ((a ++ y :: b).length : Int) := by omega
  have HT : Hid (DcTo w (w.setCell ⟨g, a.length, none⟩ (.int .i64 now)).drew d sv (.slice (some ⟨g, 0, none⟩) (a ++ y :: b).length cap) now span (a ++ (y.1, y.2.1, now) :: b)) :=
    ⟨_, _, h.touch.drewN 1, ((Kept.refl w _).setCell _ _ (fun _ => .inr (.inr rfl))).drewN 1, fun _ e => .inl e⟩
  clear h hup hat
  generalize (a ++ y :: b).length = n at *
  go_enter Tryz.func15, Tryz.ntmps15
  go_wp2_with fail
  refine Calls.mono HA ?_
  rintro e w1 ⟨k, rfl, hk, hw1⟩
  rw [hw1]
  have hk1 := HK.out k hk
  subst hk1
  clear hk hw1 HA HK
  go_wp2
  go_region
  go_wp2
  all_goals (go_ret; exact ⟨rfl, HT.out⟩)

/-- Is there such a session? -/
theorem refRemove {w : World} {d : Nat} {sv bv : Value} {now span : Int} {dl : List DcT} (h : Dc w d sv bv now span dl) (id : Int) (hl : dl.length ≤ 1000) (hup : dl.Pairwise (fun a b => a.1 < b.1)) :
    Calls Tryz.prog 17 #[.pointer (some ⟨d, 0, none⟩), .int .i64 id] w fun e w' => e = .returned (.bool (decide (id ∈ idD dl))) ∧ DcTo w w' d sv bv now span (remD dl id) := by
  have HA := refAt h id hl
  have H : Hid (Dc w d sv bv now span dl) := h
  clear h
  by_cases hy : id ∈ idD dl
  · have HK : Hid (∀ k, AtD dl id k → ∃ j : Nat, k = (j : Int) ∧ dl.eraseIdx j = remD dl id) := fun k hk => by
      rcases hk with ⟨_, hn⟩ | ⟨a, y, b, e, rfl, rfl⟩
      · exact absurd hy hn
      · exact ⟨a.length, rfl, erase_rem hup e⟩
    rw [decide_eq_true hy]
    clear hy hup
    go_enter Tryz.func17, Tryz.ntmps17
    go_wp2_with fail
    refine Calls.mono HA ?_
    rintro e w1 ⟨k, rfl, hk, hw1⟩
    rw [hw1]
    obtain ⟨j, rfl, hj⟩ := HK.out k hk
    have HJ : Hid (dl.eraseIdx j = remD dl id) := hj
    clear hk hw1 HA HK hj
    have hd : decide ((0 : Int) ≤ (j : Int)) = true := by simp
    have HO := refOut H.out j hl
    go_wp2_with fail
    refine Calls.mono HO ?_
    rintro e w2 ⟨rfl, vs, vb, HR⟩
    have HE : Hid (DcTo w w2 d sv bv now span (remD dl id)) := ⟨vs, vb, by rw [← HJ.out]; exact HR.out.1, HR.out.2.1.mono (fun k _ e => .inl e), fun k e => (HR.out.2.2 k e).imp (fun e => .inl e) (fun e => e)⟩
    clear HO HR HJ
    go_wp2
    all_goals (go_ret; exact ⟨by first | rfl | simp, HE.out⟩)
  · have HK : Hid (∀ k, AtD dl id k → k = -1) := fun k hk => by
      rcases hk with ⟨e, _⟩ | ⟨a, y, b, rfl, _, e⟩
      · exact e
      · exact absurd (List.mem_map.2 ⟨y, by simp, e⟩) hy
    have HE : Hid (DcTo w w d sv bv now span (remD dl id)) := by rw [remD_none hy]; exact .stay H.out (Kept.refl _ _)
    rw [decide_eq_false hy]
    clear hy hup
    go_enter Tryz.func17, Tryz.ntmps17
    go_wp2_with fail
    refine Calls.mono HA ?_
    rintro e w1 ⟨k, rfl, hk, hw1⟩
    rw [hw1]
    have hk1 := HK.out k hk
    subst hk1
    clear hk hw1 HA HK
    go_wp2
    all_goals (go_ret; exact ⟨by first | rfl | simp, HE.out⟩)

theorem refDueC_no {w : World} {d : Nat} {sv bv : Value} {now span : Int} {dl : List DcT} (h : Dc w d sv bv now span dl) (id : Int) (hl : dl.length ≤ 1000) (hy : id ∉ idD dl) :
    Calls Tryz.prog 22 #[.pointer (some ⟨d, 0, none⟩), .int .i64 id] w fun e w' => e = .returned (.tuple #[.int .i64 0, .bool false]) ∧ w' = w := by
  have HA := refAt h id hl
  have HY : Hid (id ∉ idD dl) := hy
  clear h hy
  go_enter Tryz.func22, Tryz.ntmps22
  go_wp2_with fail
  refine Calls.mono HA ?_
  rintro e w1 ⟨k, rfl, hk, hw1⟩
  rw [hw1]
  have hk1 : k = -1 := by
    rcases hk with ⟨e, _⟩ | ⟨a, y, b, rfl, _, e⟩
    · exact e
    · exact absurd (List.mem_map.2 ⟨y, by simp, e⟩) HY.out
  subst hk1
  clear hk hw1 HA
  go_wp2
  all_goals (go_ret2; exact ⟨rfl, rfl⟩)
theorem refDueC_yes {w : World} {d : Nat} {sv bv : Value} {now span : Int} {a b : List DcT} {y : DcT} (h : Dc w d sv bv now span (a ++ y :: b)) (hl : (a ++ y :: b).length ≤ 1000) (hup : (a ++ y :: b).Pairwise (fun a b => a.1 < b.1)) (h1 : 1 ≤ span) (h2 : span ≤ 1000) (h3 : 0 ≤ y.2.2) (h4 : y.2.2 ≤ 4000000000000000000) (h5 : 1 ≤ y.2.1) (h6 : y.2.1 ≤ 1000) :
    Calls Tryz.prog 22 #[.pointer (some ⟨d, 0, none⟩), .int .i64 y.1] w fun e w' => e = .returned (.tuple #[.int .i64 (upT (y.2.2 + y.2.1) span), .bool true]) ∧ Kept w w' (fun _ => False) := by
  have HA := refAt h y.1 hl
  have hat : (a ++ y :: b)[a.length]? = some y := by simp
  have HK : Hid (∀ k, AtD (a ++ y :: b) y.1 k → k = (a.length : Int)) := fun k hk => by
    rcases hk with ⟨_, hn⟩ | ⟨a', y', b', e, rfl, e2⟩
    · exact absurd (List.mem_map.2 ⟨y, by simp, rfl⟩) hn
    · have h1 : (a ++ y :: b)[a'.length]? = some y' := by rw [e]; simp
      have := nodup_at (fun z : DcT => z.1) (up_nd hup) h1 hat e2
      rw [this]
  have HU := refDue h hat h1 h2 h3 h4 h5 h6
  generalize upT (y.2.2 + y.2.1) span = U at *
  clear h hup hat h3 h4 h5 h6
  go_enter Tryz.func22, Tryz.ntmps22
  go_wp2_with fail
  refine Calls.mono HA ?_
  rintro e w1 ⟨k, rfl, hk, hw1⟩
  rw [hw1]
  have hk1 := HK.out k hk
  subst hk1
  clear hk hw1 HA HK
  go_wp2_with fail
  refine Calls.mono HU ?_
  rintro e w2 ⟨rfl, HE⟩
  clear HU
  go_wp2
  all_goals (go_ret2; exact ⟨rfl, HE.out⟩)

/-- What Add answers. -/
def addD (dl : List DcT) (id tm : Int) : Int := if id < 1 ∨ tm < 1 ∨ 1000 < tm then 1 else if id ∉ idD dl ∧ 64 ≤ dl.length then 77 else 0
theorem refAdd_bad {w : World} {d : Nat} (id tm : Int) (hb : id < 1 ∨ tm < 1 ∨ 1000 < tm) :
    Calls Tryz.prog 13 #[.pointer (some ⟨d, 0, none⟩), .int .i64 id, .int .i32 tm] w fun e w' => e = .returned (.int .i64 1) ∧ w' = w := by
  by_cases e1 : id < 1
  · go_enter Tryz.func13, Tryz.ntmps13
    go_wp2
    all_goals (go_ret; exact ⟨rfl, rfl⟩)
  · by_cases e2 : tm < 1
    · go_enter Tryz.func13, Tryz.ntmps13
      go_wp2
      all_goals (go_ret; exact ⟨rfl, rfl⟩)
    · have e3 : 1000 < tm := by omega
      go_enter Tryz.func13, Tryz.ntmps13
      go_wp2
      all_goals (go_ret; exact ⟨rfl, rfl⟩)
theorem refAdd_full {w : World} {d : Nat} {sv bv : Value} {now span : Int} {dl : List DcT} (h : Dc w d sv bv now span dl) (id tm : Int) (hl : dl.length ≤ 1000) (h1 : 1 ≤ id) (h5 : 1 ≤ tm) (h6 : tm ≤ 1000) (hy : id ∉ idD dl) (h64 : 64 ≤ dl.length) :
    Calls Tryz.prog 13 #[.pointer (some ⟨d, 0, none⟩), .int .i64 id, .int .i32 tm] w fun e w' => e = .returned (.int .i64 77) ∧ w' = w := by
  have HA := refAt h id hl
  have c2 := h.c2
  have hz := lt_of_block h.row
  obtain ⟨sa, sc, rfl⟩ := h.sv
  have HK : Hid (∀ k, AtD dl id k → k = -1) := fun k hk => by
    rcases hk with ⟨e, _⟩ | ⟨a, y, b, rfl, _, e⟩
    · exact e
    · exact absurd (List.mem_map.2 ⟨y, by simp, e⟩) hy
  have hd : decide ((64 : Int) ≤ (dl.length : Int)) = true := by simp; omega
  have n1 : ¬ id < 1 := by omega
  have n2 : ¬ tm < 1 := by omega
  have n3 : ¬ 1000 < tm := by omega
  clear h hy
  go_enter Tryz.func13, Tryz.ntmps13
  go_wp2_with fail
  refine Calls.mono HA ?_
  rintro e w1 ⟨k, rfl, hk, hw1⟩
  rw [hw1]
  have hk1 := HK.out k hk
  subst hk1
  clear hk hw1 HA HK
  go_wp2
  all_goals (go_ret; exact ⟨rfl, rfl⟩)

end Go.Proofs.YtmniefmjdfdedaaGreatDoor
