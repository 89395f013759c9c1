/- What begin, Add, Touch, Remove, Due of a clock answer. -/
import Derived.Test.YtmniefmjdfdedaaGreatDoorSeB
import Derived.Deep.RegionHeld
namespace Go.Proofs.YtmniefmjdfdedaaGreatDoor
open Go.RowKit Go.Shelf
set_option maxRecDepth 8000
set_option linter.unusedSimpArgs false

/-- The sessions with one more, or with one of them put anew. -/
def putL : List LfT → LfT → List LfT
  | [], x => [x]
  | y :: r, x => if y.1 = x.1 then x :: r else y :: putL r x
theorem putL_none {x : LfT} : ∀ {l : List LfT}, x.1 ∉ ids l → putL l x = l ++ [x]
  | [], _ => rfl
  | y :: r, h => by
    simp only [ids, List.map_cons, List.mem_cons, not_or] at h
    simp only [putL, if_neg (Ne.symm h.1), List.cons_append]
    rw [putL_none (l := r) h.2]
theorem putL_some {x y : LfT} (e : y.1 = x.1) : ∀ {a b : List LfT}, y.1 ∉ ids a → putL (a ++ y :: b) x = a ++ x :: b
  | [], b, _ => by simp [putL, e]
  | z :: a, b, h => by
    simp only [ids, List.map_cons, List.mem_cons, not_or] at h
    simp only [List.cons_append, putL, if_neg (show z.1 ≠ x.1 by rw [← e]; exact Ne.symm h.1)]
    rw [putL_some e h.2]
/-- The session of an id. -/
def getL (l : List LfT) (id : Int) : Option LfT := l.find? (fun x => x.1 == id)
theorem getL_none {l : List LfT} {id : Int} : id ∉ ids l ↔ getL l id = none := by
  unfold getL ids
  rw [List.find?_eq_none]
  simp only [List.mem_map, not_exists, not_and, beq_iff_eq]
theorem getL_some {id : Int} : ∀ {l : List LfT}, id ∈ ids l → ∃ a y b, l = a ++ y :: b ∧ y.1 = id ∧ id ∉ ids a ∧ getL l id = some y
  | [], h => by simp [ids] at h
  | z :: r, h => by
    by_cases e : z.1 = id
    · exact ⟨[], z, r, rfl, e, by simp [ids], by simp [getL, e]⟩
    · obtain ⟨a, y, b, e1, e2, e3, e4⟩ := getL_some (l := r) (by simpa [ids, Ne.symm e] using h)
      refine ⟨z :: a, y, b, by rw [e1]; rfl, e2, by simpa [ids, Ne.symm e] using e3, ?_⟩
      unfold getL at e4 ⊢
      simp [List.find?_cons, e, e4]

theorem store_any {w : World} {m : Nat} {l : List LfT} (h : Mp w m l) (x : LfT) :
    ∃ w', (Instr.mapUpdate 46 (.map (some m)) (.int .i64 x.1) (lfV x)).run Tryz.prog w = .ok () w' ∧ Mp w' m (putL l x) ∧ Kept w w' (fun k => k = m) := by
  by_cases hx : x.1 ∈ ids l
  · obtain ⟨a, y, b, rfl, e, hn, _⟩ := getL_some hx
    obtain ⟨w', h1, h2, h3⟩ := store_some x e.symm h (by rw [e]; exact hn)
    rw [e] at h1
    exact ⟨w', h1, by rw [putL_some e (by rw [e]; exact hn)]; exact h2, h3⟩
  · obtain ⟨w', h1, h2, h3⟩ := store_none h hx
    exact ⟨w', h1, by rw [putL_none hx]; exact h2, h3⟩

/-- What a look tells. -/
def lookV (l : List LfT) (id : Int) : LfT := (getL l id).getD (0, 0, 0)
theorem look_any {w : World} {m : Nat} {l : List LfT} (h : Mp w m l) (id : Int) : (Instr.lookup 46 (.map (some m)) (.int .i64 id) true).run Tryz.prog w = .ok (.tuple #[lfV (lookV l id), .bool (getL l id).isSome]) w := by
  by_cases hx : id ∈ ids l
  · obtain ⟨a, y, b, e0, e, hn, e4⟩ := getL_some hx
    unfold lookV
    rw [e4]
    subst e0
    have := look_some h (by rw [e]; exact hn) true
    rw [e] at this
    exact this
  · have e4 := getL_none.1 hx
    unfold lookV
    rw [e4]
    exact look_none h hx true

set_option maxHeartbeats 1000000 in
theorem begin_any {w : World} {c m s : Nat} {t span : Int} {l : List LfT} (h : Ck w c m s t span l) (id tm : Int) (h1 : 1 ≤ span) (h2 : span ≤ 1000) (h3 : 0 ≤ t) (h4 : t ≤ 4000000000000000000) (h5 : 1 ≤ tm) (h6 : tm ≤ 1000) :
    Calls Tryz.prog 28 #[.pointer (some ⟨c, 0, none⟩), .int .i64 id, .int .i32 tm] w fun e w' => e = .returned (.tuple #[]) ∧ Ck w' c m s t span (putL l (id, tm, upT (t + tm) span)) ∧ Kept w w' (fun k => k = m) := by
  have HU : ∀ V : World, V.cell? ⟨s, 0, none⟩ = some (.int .i64 span) → Calls Tryz.prog 12 #[.int .i64 (t + tm), .pointer (some ⟨s, 0, none⟩)] V fun e w' => e = .returned (.int .i64 (upT (t + tm) span)) ∧ ∃ n, w' = V.drewN n := fun V hV => up_any (t + tm) hV h1 h2 (by omega) (by omega)
  have e1 : IntKind.i64.wrap (t + tm) = t + tm := wrapI _ (by omega) (by omega)
  have e2 : IntKind.i64.wrap tm = tm := wrapI _ (by omega) (by omega)
  have c0 := h.c0
  have c1 := h.c1
  have c2 := h.c2
  have s0 := h.s0
  have hz := lt_of_block h.hc
  have HH : Hid (Ck w c m s t span l) := h
  clear h
  have g0 : w.cell? ⟨c, 0, none⟩ = some (.int .i64 t) ∧ w.cell? ⟨c, 1, none⟩ = some (.map (some m)) ∧ w.cell? ⟨c, 2, none⟩ = some (upF s) := ⟨c0, c1, c2⟩
  generalize upT (t + tm) span = u at *
  go_enter Tryz.func28, Tryz.ntmps28
  go_wp2_with fail
  refine wp_region_held_drew (S := (fun W => W.cell? ⟨c, 0, none⟩ = some (.int .i64 t) ∧ W.cell? ⟨c, 1, none⟩ = some (.map (some m)) ∧ W.cell? ⟨c, 2, none⟩ = some (upF s))) (by kernel_rfl) ?_ (fun hHeld => ?_)
  · exact g0
  refine wpAnyH_take (i := 0) (oi := { dst := some 6, op := Op.move (Operand.tmp 0), type := 27, pos := "session.go:118", after := #[], guard := none }) (v := ?_) rfl (by kernel_rfl) (by kernel_rfl) (by kernel_rfl) (fun _ _ _ h => h) (Or.inl ⟨by rfl, ?_⟩) (by assumption) ?_
  rotate_left
  · (intro w hSw; (try dsimp only at hSw); go_simp) <;> with_reducible rfl
  try simp only [Act.put, List.setIfInBounds_toArray, List.set_cons_zero, List.set_cons_succ]
  refine wpAnyH_take (i := 1) (oi := { dst := some 7, op := Op.nilCheck (Operand.tmp 6), type := 0, pos := "session.go:118", after := #[{ on := 0, ground := Ground.data }], guard := none }) (v := ?_) rfl (by kernel_rfl) (by kernel_rfl) (by kernel_rfl) (fun _ _ _ h => h) (Or.inl ⟨by rfl, ?_⟩) (by assumption) ?_
  rotate_left
  · (intro w hSw; (try dsimp only at hSw); go_simp) <;> with_reducible rfl
  try simp only [Act.put, List.setIfInBounds_toArray, List.set_cons_zero, List.set_cons_succ]
  refine wpAnyH_take (i := 2) (oi := { dst := some 8, op := Op.fieldAddr 48 (Operand.tmp 7) 1, type := 0, pos := "session.go:118", after := #[{ on := 1, ground := Ground.data }], guard := none }) (v := ?_) rfl (by kernel_rfl) (by kernel_rfl) (by kernel_rfl) (fun _ _ _ h => h) (Or.inl ⟨by rfl, ?_⟩) (by assumption) ?_
  rotate_left
  · (intro w hSw; (try dsimp only at hSw); go_simp) <;> with_reducible rfl
  try simp only [Act.put, List.setIfInBounds_toArray, List.set_cons_zero, List.set_cons_succ]
  refine wpAnyH_take (i := 3) (oi := { dst := some 9, op := Op.load 46 (Operand.tmp 8), type := 46, pos := "session.go:118", after := #[{ on := 2, ground := Ground.data }], guard := none }) (v := ?_) rfl (by kernel_rfl) (by kernel_rfl) (by kernel_rfl) (fun _ _ _ h => h) (Or.inl ⟨by rfl, ?_⟩) (by assumption) ?_
  rotate_left
  · (intro w hSw; (try dsimp only at hSw); go_simp) <;> with_reducible rfl
  try simp only [Act.put, List.setIfInBounds_toArray, List.set_cons_zero, List.set_cons_succ]
  refine wpAnyH_take (i := 4) (oi := { dst := some 10, op := Op.move (Operand.tmp 1), type := 2, pos := "session.go:118", after := #[], guard := none }) (v := ?_) rfl (by kernel_rfl) (by kernel_rfl) (by kernel_rfl) (fun _ _ _ h => h) (Or.inl ⟨by rfl, ?_⟩) (by assumption) ?_
  rotate_left
  · (intro w hSw; (try dsimp only at hSw); go_simp) <;> with_reducible rfl
  try simp only [Act.put, List.setIfInBounds_toArray, List.set_cons_zero, List.set_cons_succ]
  refine wpAnyH_take (i := 5) (oi := { dst := some 11, op := Op.move (Operand.tmp 2), type := 21, pos := "session.go:118", after := #[], guard := none }) (v := ?_) rfl (by kernel_rfl) (by kernel_rfl) (by kernel_rfl) (fun _ _ _ h => h) (Or.inl ⟨by rfl, ?_⟩) (by assumption) ?_
  rotate_left
  · (intro w hSw; (try dsimp only at hSw); go_simp) <;> with_reducible rfl
  try simp only [Act.put, List.setIfInBounds_toArray, List.set_cons_zero, List.set_cons_succ]
  refine wpAnyH_take (i := 6) (oi := { dst := some 12, op := Op.move (Operand.tmp 0), type := 27, pos := "session.go:118", after := #[], guard := none }) (v := ?_) rfl (by kernel_rfl) (by kernel_rfl) (by kernel_rfl) (fun _ _ _ h => h) (Or.inl ⟨by rfl, ?_⟩) (by assumption) ?_
  rotate_left
  · (intro w hSw; (try dsimp only at hSw); go_simp) <;> with_reducible rfl
  try simp only [Act.put, List.setIfInBounds_toArray, List.set_cons_zero, List.set_cons_succ]
  refine wpAnyH_take (i := 7) (oi := { dst := some 13, op := Op.nilCheck (Operand.tmp 12), type := 0, pos := "session.go:118", after := #[{ on := 6, ground := Ground.data }], guard := none }) (v := ?_) rfl (by kernel_rfl) (by kernel_rfl) (by kernel_rfl) (fun _ _ _ h => h) (Or.inl ⟨by rfl, ?_⟩) (by assumption) ?_
  rotate_left
  · (intro w hSw; (try dsimp only at hSw); go_simp) <;> with_reducible rfl
  try simp only [Act.put, List.setIfInBounds_toArray, List.set_cons_zero, List.set_cons_succ]
  refine wpAnyH_take (i := 8) (oi := { dst := some 14, op := Op.fieldAddr 48 (Operand.tmp 13) 2, type := 0, pos := "session.go:118", after := #[{ on := 7, ground := Ground.data }], guard := none }) (v := ?_) rfl (by kernel_rfl) (by kernel_rfl) (by kernel_rfl) (fun _ _ _ h => h) (Or.inl ⟨by rfl, ?_⟩) (by assumption) ?_
  rotate_left
  · (intro w hSw; (try dsimp only at hSw); go_simp) <;> with_reducible rfl
  try simp only [Act.put, List.setIfInBounds_toArray, List.set_cons_zero, List.set_cons_succ]
  refine wpAnyH_take (i := 9) (oi := { dst := some 15, op := Op.load 45 (Operand.tmp 14), type := 45, pos := "session.go:118", after := #[{ on := 8, ground := Ground.data }], guard := none }) (v := ?_) rfl (by kernel_rfl) (by kernel_rfl) (by kernel_rfl) (fun _ _ _ h => h) (Or.inl ⟨by rfl, ?_⟩) (by assumption) ?_
  rotate_left
  · (intro w hSw; (try dsimp only at hSw); go_simp) <;> with_reducible rfl
  try simp only [Act.put, List.setIfInBounds_toArray, List.set_cons_zero, List.set_cons_succ]
  refine wpAnyH_take (i := 10) (oi := { dst := some 16, op := Op.move (Operand.tmp 0), type := 27, pos := "session.go:118", after := #[], guard := none }) (v := ?_) rfl (by kernel_rfl) (by kernel_rfl) (by kernel_rfl) (fun _ _ _ h => h) (Or.inl ⟨by rfl, ?_⟩) (by assumption) ?_
  rotate_left
  · (intro w hSw; (try dsimp only at hSw); go_simp) <;> with_reducible rfl
  try simp only [Act.put, List.setIfInBounds_toArray, List.set_cons_zero, List.set_cons_succ]
  refine wpAnyH_take (i := 11) (oi := { dst := some 17, op := Op.nilCheck (Operand.tmp 16), type := 0, pos := "session.go:118", after := #[{ on := 10, ground := Ground.data }], guard := none }) (v := ?_) rfl (by kernel_rfl) (by kernel_rfl) (by kernel_rfl) (fun _ _ _ h => h) (Or.inl ⟨by rfl, ?_⟩) (by assumption) ?_
  rotate_left
  · (intro w hSw; (try dsimp only at hSw); go_simp) <;> with_reducible rfl
  try simp only [Act.put, List.setIfInBounds_toArray, List.set_cons_zero, List.set_cons_succ]
  refine wpAnyH_take (i := 12) (oi := { dst := some 18, op := Op.fieldAddr 48 (Operand.tmp 17) 0, type := 0, pos := "session.go:118", after := #[{ on := 11, ground := Ground.data }], guard := none }) (v := ?_) rfl (by kernel_rfl) (by kernel_rfl) (by kernel_rfl) (fun _ _ _ h => h) (Or.inl ⟨by rfl, ?_⟩) (by assumption) ?_
  rotate_left
  · (intro w hSw; (try dsimp only at hSw); go_simp) <;> with_reducible rfl
  try simp only [Act.put, List.setIfInBounds_toArray, List.set_cons_zero, List.set_cons_succ]
  refine wpAnyH_take (i := 13) (oi := { dst := some 19, op := Op.load 3 (Operand.tmp 18), type := 3, pos := "session.go:118", after := #[{ on := 12, ground := Ground.data }], guard := none }) (v := ?_) rfl (by kernel_rfl) (by kernel_rfl) (by kernel_rfl) (fun _ _ _ h => h) (Or.inl ⟨by rfl, ?_⟩) (by assumption) ?_
  rotate_left
  · (intro w hSw; (try dsimp only at hSw); go_simp) <;> with_reducible rfl
  try simp only [Act.put, List.setIfInBounds_toArray, List.set_cons_zero, List.set_cons_succ]
  refine wpAnyH_take (i := 14) (oi := { dst := some 20, op := Op.move (Operand.tmp 2), type := 21, pos := "session.go:118", after := #[], guard := none }) (v := ?_) rfl (by kernel_rfl) (by kernel_rfl) (by kernel_rfl) (fun _ _ _ h => h) (Or.inl ⟨by rfl, ?_⟩) (by assumption) ?_
  rotate_left
  · (intro w hSw; (try dsimp only at hSw); go_simp) <;> with_reducible rfl
  try simp only [Act.put, List.setIfInBounds_toArray, List.set_cons_zero, List.set_cons_succ]
  refine wpAnyH_take (i := 15) (oi := { dst := some 21, op := Op.convert 21 3 (Operand.tmp 20), type := 3, pos := "session.go:118", after := #[{ on := 14, ground := Ground.data }], guard := none }) (v := ?_) rfl (by kernel_rfl) (by kernel_rfl) (by kernel_rfl) (fun _ _ _ h => h) (Or.inl ⟨by rfl, ?_⟩) (by assumption) ?_
  rotate_left
  · (intro w hSw; (try dsimp only at hSw); go_simp) <;> with_reducible rfl
  try simp only [Act.put, List.setIfInBounds_toArray, List.set_cons_zero, List.set_cons_succ]
  refine wpAnyH_take (i := 16) (oi := { dst := some 22, op := Op.binOp BinOp.add 3 (Operand.tmp 19) (Operand.tmp 21) 3, type := 3, pos := "session.go:118", after := #[{ on := 13, ground := Ground.data }, { on := 15, ground := Ground.data }], guard := none }) (v := ?_) rfl (by kernel_rfl) (by kernel_rfl) (by kernel_rfl) (fun _ _ _ h => h) (Or.inl ⟨by rfl, ?_⟩) (by assumption) ?_
  rotate_left
  · (intro w hSw; (try dsimp only at hSw); go_simp) <;> with_reducible rfl
  try simp only [Act.put, List.setIfInBounds_toArray, List.set_cons_zero, List.set_cons_succ]
  refine wpAnyH_ready (rs := [17]) (by kernel_rfl) (by simp) ?_
  refine AllReadyH.cons (o := { dst := some 23, op := Op.call { callee := Callee.value (Operand.tmp 15), args := #[Operand.tmp 22], argTypes := #[3] }, type := 3, pos := "session.go:118", after := #[{ on := 9, ground := Ground.data }, { on := 16, ground := Ground.data }], guard := none }) rfl (fun K hK => ?_) AllReadyH.nil
  go_simp
  refine (HU w.drew s0).mono ?_
  rintro e w1 ⟨rfl, n, hw1⟩
  obtain ⟨W3, hst0, hm3, hk3⟩ := store_any (w := w1) (by rw [hw1]; exact HH.out.hm) (id, tm, u)
  have hst : (Instr.mapUpdate 46 (.map (some m)) (.int .i64 id) (.agg #[.int .i32 tm, .int .i64 u])).run Tryz.prog w1 = .ok () W3 := hst0
  have g1 : w1.cell? ⟨c, 0, none⟩ = some (.int .i64 t) ∧ w1.cell? ⟨c, 1, none⟩ = some (.map (some m)) ∧ w1.cell? ⟨c, 2, none⟩ = some (upF s) := by rw [hw1]; exact g0
  have hne := HH.out.ne
  have g2 : W3.cell? ⟨c, 0, none⟩ = some (.int .i64 t) ∧ W3.cell? ⟨c, 1, none⟩ = some (.map (some m)) ∧ W3.cell? ⟨c, 2, none⟩ = some (upF s) := ⟨hk3.cell g1.1 hne.1, hk3.cell g1.2.1 hne.1, hk3.cell g1.2.2 hne.1⟩
  have HE : Hid (Ck W3 c m s t span (putL l (id, tm, u)) ∧ Kept w W3 (fun k => k = m)) := by
    have hkw : Kept w W3 (fun k => k = m) := by rw [hw1] at hk3; exact ⟨hk3.os, hk3.tape, hk3.output, hk3.size, hk3.block⟩
    exact ⟨⟨hkw.heap HH.out.hc hne.1, hkw.heap HH.out.hs (Ne.symm hne.2.2), hm3⟩, hkw⟩
  clear hst0 hm3 hk3 hne hw1
  refine hK.out _ _ g1 (fun hHeld => ?_)
  clear hK K
  refine wpAnyH_take (i := 18) (oi := { dst := some 24, op := Op.build 86 #[(0, Operand.tmp 11), (1, Operand.tmp 23)], type := 86, pos := "session.go:118", after := #[{ on := 5, ground := Ground.data }, { on := 17, ground := Ground.data }], guard := none }) (v := ?_) rfl (by kernel_rfl) (by kernel_rfl) (by kernel_rfl) (fun _ _ _ h => h) (Or.inl ⟨by rfl, ?_⟩) (by assumption) ?_
  rotate_left
  · (intro w hSw; (try dsimp only at hSw); go_simp) <;> with_reducible rfl
  try simp only [Act.put, List.setIfInBounds_toArray, List.set_cons_zero, List.set_cons_succ]
  refine wpAnyH_ready (rs := [19]) (by kernel_rfl) (by simp) ?_
  refine AllReadyH.cons (o := { dst := none, op := Op.mapUpdate 46 (Operand.tmp 9) (Operand.tmp 10) (Operand.tmp 24), type := 0, pos := "session.go:118", after := #[{ on := 3, ground := Ground.data }, { on := 4, ground := Ground.data }, { on := 18, ground := Ground.data }, { on := 17, ground := Ground.chain }, { on := 0, ground := Ground.phase }, { on := 1, ground := Ground.phase }, { on := 2, ground := Ground.phase }, { on := 3, ground := Ground.phase }, { on := 4, ground := Ground.phase }, { on := 5, ground := Ground.phase }, { on := 6, ground := Ground.phase }, { on := 7, ground := Ground.phase }, { on := 8, ground := Ground.phase }, { on := 9, ground := Ground.phase }, { on := 10, ground := Ground.phase }, { on := 11, ground := Ground.phase }, { on := 12, ground := Ground.phase }, { on := 13, ground := Ground.phase }, { on := 14, ground := Ground.phase }, { on := 15, ground := Ground.phase }, { on := 16, ground := Ground.phase }, { on := 17, ground := Ground.phase }, { on := 18, ground := Ground.phase }], guard := none }) rfl (fun K hK => ?_) AllReadyH.nil
  go_simp
  refine hK.out _ _ g2 (fun hHeld => ?_)
  clear hK K
  refine wpAnyH_done (by kernel_rfl) ?_ _
  clear hHeld
  go_wp2
  all_goals (go_end0; exact ⟨rfl, HE.out⟩)

/-- What Add answers. -/
def addE (l : List LfT) (id tm : Int) : Int := if id < 1 ∨ tm < 1 ∨ 1000 < tm then 1 else if getL l id = none ∧ 64 ≤ l.length then 77 else 0

set_option maxHeartbeats 1000000 in
theorem add_bad {w : World} {c m s : Nat} {t span : Int} {l : List LfT} (h : Ck w c m s t span l) (id tm : Int) (hb : id < 1 ∨ tm < 1 ∨ 1000 < tm) :
    Calls Tryz.prog 9 #[.pointer (some ⟨c, 0, none⟩), .int .i64 id, .int .i32 tm] w fun e w' => e = .returned (.int .i64 1) ∧ w' = w := by
  have HN : Hid _ := isNone_no h
  clear h
  by_cases q1 : id < 1
  · have d1 : decide (id < 1) = true := by simp; omega
    clear hb q1
    go_enter Tryz.func9, Tryz.ntmps9
    go_wp2_with fail
    refine Calls.mono HN.out ?_
    rintro e w1 ⟨rfl, hw1⟩
    rw [hw1]
    clear hw1 HN
    go_wp2
    all_goals (go_ret; exact ⟨rfl, rfl⟩)
  · have d1 : decide (id < 1) = false := by simp; omega
    by_cases q2 : tm < 1
    · have d2 : decide (tm < 1) = true := by simp; omega
      clear hb q1 q2
      go_enter Tryz.func9, Tryz.ntmps9
      go_wp2_with fail
      refine Calls.mono HN.out ?_
      rintro e w1 ⟨rfl, hw1⟩
      rw [hw1]
      clear hw1 HN
      go_wp2
      all_goals (go_ret; exact ⟨rfl, rfl⟩)
    · have d2 : decide (tm < 1) = false := by simp; omega
      have d3 : decide (tm > 1000) = true := by simp; omega
      have d4 : decide (1000 < tm) = true := by simp; omega
      clear hb q1 q2
      go_enter Tryz.func9, Tryz.ntmps9
      go_wp2_with fail
      refine Calls.mono HN.out ?_
      rintro e w1 ⟨rfl, hw1⟩
      rw [hw1]
      clear hw1 HN
      go_wp2
      all_goals (go_ret; exact ⟨rfl, rfl⟩)

set_option maxHeartbeats 1000000 in
theorem add_old {w : World} {c m s : Nat} {t span : Int} {l : List LfT} (h : Ck w c m s t span l) (id tm : Int) (h1 : 1 ≤ span) (h2 : span ≤ 1000) (h3 : 0 ≤ t) (h4 : t ≤ 4000000000000000000) (h5 : 1 ≤ tm) (h6 : tm ≤ 1000) (h7 : 1 ≤ id) (hg : (getL l id).isSome = true) :
    Calls Tryz.prog 9 #[.pointer (some ⟨c, 0, none⟩), .int .i64 id, .int .i32 tm] w fun e w' => e = .returned (.int .i64 0) ∧ Ck w' c m s t span (putL l (id, tm, upT (t + tm) span)) ∧ Kept w w' (fun k => k = m) := by
  have HN : Hid _ := isNone_no h
  have d1 : decide (id < 1) = false := by simp; omega
  have d2 : decide (tm < 1) = false := by simp; omega
  have d3 : decide (tm > 1000) = false := by simp; omega
  have d4 : decide (1000 < tm) = false := by simp; omega
  obtain ⟨y1, hy1⟩ : ∃ y1, y1 = (lookV l id).2.1 := ⟨_, rfl⟩
  obtain ⟨y2, hy2⟩ : ∃ y2, y2 = (lookV l id).2.2 := ⟨_, rfl⟩
  have B1 : Below w.heap.size w (w.alloc (.cells #[.int .i32 y1, .int .i64 y2] 86)) := (Below.refl _ w).alloc (Nat.le_refl _) _
  have HB : Hid (Calls Tryz.prog 28 #[.pointer (some ⟨c, 0, none⟩), .int .i64 id, .int .i32 tm] (w.alloc (.cells #[.int .i32 y1, .int .i64 y2] 86)) fun e w' => e = .returned (.tuple #[]) ∧ Hid (Ck w' c m s t span (putL l (id, tm, upT (t + tm) span)) ∧ Kept w w' (fun k => k = m))) := by
    refine (begin_any (h.below B1) id tm h1 h2 h3 h4 h5 h6).mono (fun e w' hh => ⟨hh.1, hh.2.1, ((Kept.refl w _).alloc _).trans hh.2.2 (fun _ _ q => q)⟩)
  have hlk := look_any h.hm id
  rw [hg] at hlk
  have hlk2 : (Instr.lookup 46 (.map (some m)) (.int .i64 id) true).run Tryz.prog w = .ok (.tuple #[.agg #[.int .i32 y1, .int .i64 y2], .bool true]) w := by rw [hy1, hy2]; exact hlk
  have c1 := h.c1
  have hz := lt_of_block h.hc
  clear h hlk h1 h2 h3 h4 h5 h6 h7 B1 hy1 hy2
  go_enter Tryz.func9, Tryz.ntmps9
  go_wp2_with fail
  refine Calls.mono HN.out ?_
  rintro e w1 ⟨rfl, hw1⟩
  rw [hw1]
  clear hw1 HN
  go_wp2_with fail
  go_at_call 28
  refine Calls.mono HB.out ?_
  rintro e w2 ⟨rfl, HE⟩
  go_wp2
  all_goals (go_ret; exact ⟨rfl, HE.out⟩)

set_option maxHeartbeats 1000000 in
theorem add_new {w : World} {c m s : Nat} {t span : Int} {l : List LfT} (h : Ck w c m s t span l) (id tm : Int) (h1 : 1 ≤ span) (h2 : span ≤ 1000) (h3 : 0 ≤ t) (h4 : t ≤ 4000000000000000000) (h5 : 1 ≤ tm) (h6 : tm ≤ 1000) (h7 : 1 ≤ id) (hg : (getL l id).isSome = false) (hl : l.length < 64) :
    Calls Tryz.prog 9 #[.pointer (some ⟨c, 0, none⟩), .int .i64 id, .int .i32 tm] w fun e w' => e = .returned (.int .i64 0) ∧ Ck w' c m s t span (putL l (id, tm, upT (t + tm) span)) ∧ Kept w w' (fun k => k = m) := by
  have HN : Hid _ := isNone_no h
  have d1 : decide (id < 1) = false := by simp; omega
  have d2 : decide (tm < 1) = false := by simp; omega
  have d3 : decide (tm > 1000) = false := by simp; omega
  have d4 : decide (1000 < tm) = false := by simp; omega
  have d5 : decide ((l.length : Int) ≥ 64) = false := by simp; omega
  have d6 : decide (64 ≤ (l.length : Int)) = false := by simp; omega
  obtain ⟨y1, hy1⟩ : ∃ y1, y1 = (lookV l id).2.1 := ⟨_, rfl⟩
  obtain ⟨y2, hy2⟩ : ∃ y2, y2 = (lookV l id).2.2 := ⟨_, rfl⟩
  have B1 : Below w.heap.size w (w.alloc (.cells #[.int .i32 y1, .int .i64 y2] 86)) := (Below.refl _ w).alloc (Nat.le_refl _) _
  have HB : Hid (Calls Tryz.prog 28 #[.pointer (some ⟨c, 0, none⟩), .int .i64 id, .int .i32 tm] (w.alloc (.cells #[.int .i32 y1, .int .i64 y2] 86)) fun e w' => e = .returned (.tuple #[]) ∧ Hid (Ck w' c m s t span (putL l (id, tm, upT (t + tm) span)) ∧ Kept w w' (fun k => k = m))) := by
    refine (begin_any (h.below B1) id tm h1 h2 h3 h4 h5 h6).mono (fun e w' hh => ⟨hh.1, hh.2.1, ((Kept.refl w _).alloc _).trans hh.2.2 (fun _ _ q => q)⟩)
  have hlk := look_any h.hm id
  rw [hg] at hlk
  have hlk2 : (Instr.lookup 46 (.map (some m)) (.int .i64 id) true).run Tryz.prog w = .ok (.tuple #[.agg #[.int .i32 y1, .int .i64 y2], .bool false]) w := by rw [hy1, hy2]; exact hlk
  have hln := fun ty => len_map ty (h.below B1).hm
  have c1 := h.c1
  have hz := lt_of_block h.hc
  clear h hlk h1 h2 h3 h4 h5 h6 h7 B1 hy1 hy2
  go_enter Tryz.func9, Tryz.ntmps9
  go_wp2_with fail
  refine Calls.mono HN.out ?_
  rintro e w1 ⟨rfl, hw1⟩
  rw [hw1]
  clear hw1 HN
  go_wp2_with fail
  go_at_call 28
  refine Calls.mono HB.out ?_
  rintro e w2 ⟨rfl, HE⟩
  go_wp2
  all_goals (go_ret; exact ⟨rfl, HE.out⟩)

set_option maxHeartbeats 1000000 in
theorem add_full {w : World} {c m s : Nat} {t span : Int} {l : List LfT} (h : Ck w c m s t span l) (id tm : Int) (h5 : 1 ≤ tm) (h6 : tm ≤ 1000) (h7 : 1 ≤ id) (hg : (getL l id).isSome = false) (hl : 64 ≤ l.length) :
    Calls Tryz.prog 9 #[.pointer (some ⟨c, 0, none⟩), .int .i64 id, .int .i32 tm] w fun e w' => e = .returned (.int .i64 77) ∧ Below w.heap.size w w' := by
  have HN : Hid _ := isNone_no h
  have d1 : decide (id < 1) = false := by simp; omega
  have d2 : decide (tm < 1) = false := by simp; omega
  have d3 : decide (tm > 1000) = false := by simp; omega
  have d4 : decide (1000 < tm) = false := by simp; omega
  have d5 : decide ((l.length : Int) ≥ 64) = true := by simp; omega
  have d6 : decide (64 ≤ (l.length : Int)) = true := by simp; omega
  obtain ⟨y1, hy1⟩ : ∃ y1, y1 = (lookV l id).2.1 := ⟨_, rfl⟩
  obtain ⟨y2, hy2⟩ : ∃ y2, y2 = (lookV l id).2.2 := ⟨_, rfl⟩
  have B1 : Below w.heap.size w (w.alloc (.cells #[.int .i32 y1, .int .i64 y2] 86)) := (Below.refl _ w).alloc (Nat.le_refl _) _
  have HB : Hid _ := B1
  have hlk := look_any h.hm id
  rw [hg] at hlk
  have hlk2 : (Instr.lookup 46 (.map (some m)) (.int .i64 id) true).run Tryz.prog w = .ok (.tuple #[.agg #[.int .i32 y1, .int .i64 y2], .bool false]) w := by rw [hy1, hy2]; exact hlk
  have hln := fun ty => len_map ty (h.below B1).hm
  have c1 := h.c1
  have hz := lt_of_block h.hc
  clear h hlk h5 h6 h7 B1 hy1 hy2 hl
  go_enter Tryz.func9, Tryz.ntmps9
  go_wp2_with fail
  refine Calls.mono HN.out ?_
  rintro e w1 ⟨rfl, hw1⟩
  rw [hw1]
  clear hw1 HN
  go_wp2
  all_goals (go_ret; exact ⟨rfl, HB.out⟩)

/-- The sessions behind an Add. -/
def addL (l : List LfT) (id tm u : Int) : List LfT := if addE l id tm = 0 then putL l (id, tm, u) else l

theorem add_any {w : World} {c m s : Nat} {t span : Int} {l : List LfT} (h : Ck w c m s t span l) (id tm : Int) (h1 : 1 ≤ span) (h2 : span ≤ 1000) (h3 : 0 ≤ t) (h4 : t ≤ 4000000000000000000) :
    Calls Tryz.prog 9 #[.pointer (some ⟨c, 0, none⟩), .int .i64 id, .int .i32 tm] w fun e w' => e = .returned (.int .i64 (addE l id tm)) ∧ Ck w' c m s t span (addL l id tm (upT (t + tm) span)) ∧ Kept w w' (fun k => k = m) := by
  by_cases hb : id < 1 ∨ tm < 1 ∨ 1000 < tm
  · have e1 : addE l id tm = 1 := by unfold addE; rw [if_pos hb]
    refine (add_bad h id tm hb).mono (fun e w' hh => ?_)
    obtain ⟨rfl, rfl⟩ := hh
    unfold addL
    rw [e1]
    exact ⟨rfl, h, Kept.refl _ _⟩
  · cases hg : (getL l id).isSome with
    | true =>
      have e1 : addE l id tm = 0 := by unfold addE; rw [if_neg hb, if_neg (fun q => by rw [q.1] at hg; cases hg)]
      refine (add_old h id tm h1 h2 h3 h4 (by omega) (by omega) (by omega) hg).mono (fun e w' hh => ?_)
      unfold addL
      rw [e1]
      exact hh
    | false =>
      have hn : getL l id = none := by cases hq : getL l id with
        | none => rfl
        | some y => rw [hq] at hg; cases hg
      by_cases hl : 64 ≤ l.length
      · have e1 : addE l id tm = 77 := by unfold addE; rw [if_neg hb, if_pos ⟨hn, hl⟩]
        refine (add_full h id tm (by omega) (by omega) (by omega) hg hl).mono (fun e w' hh => ?_)
        unfold addL
        rw [e1]
        exact ⟨hh.1, h.below hh.2, (Below.kept hh.2).mono (fun k q1 q2 => by omega)⟩
      · have e1 : addE l id tm = 0 := by unfold addE; rw [if_neg hb, if_neg (fun q => hl q.2)]
        refine (add_new h id tm h1 h2 h3 h4 (by omega) (by omega) (by omega) hg (by omega)).mono (fun e w' hh => ?_)
        unfold addL
        rw [e1]
        exact hh

end Go.Proofs.YtmniefmjdfdedaaGreatDoor
