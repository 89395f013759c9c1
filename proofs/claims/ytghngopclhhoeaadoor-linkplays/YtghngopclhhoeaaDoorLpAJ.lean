/- CopyMessages of lagoonref00; lists of messages of one's own. -/
import Derived.Test.YtghngopclhhoeaaDoorLkMJ
import Derived.Test.YtghngopclhhoeaaDoorLkIJ
import Derived.Test.YtghngopclhhoeaaDoorMemJ
import Derived.Deep.CutRange
namespace Go.Proofs.YtghngopclhhoeaaDoor
open Go.RowKit
set_option maxRecDepth 8000
set_option linter.unusedSimpArgs false
set_option linter.unusedVariables false

theorem wpList_appM {P : Program} (w : World) {ops : Array Oper} {rest : List Oper} {o : Oper} {a : Act} {Q : Exit → Act → World → Prop} (hgd : o.guard = none) (s x : Operand) (t : TypeId)
    (ho : o.op = .call { callee := .builtin .append, args := #[s, x], argTypes := #[t, t] }) (v u : Value) (hs : a.eval s = v) (hx : a.eval x = u) {v' : Value} {w' : World}
    (hr : (Builtin.append_ #[t, t] o.type #[v, u]).run P w = .ok v' w') (h : wpList P ops Q rest (a.put o.dst v') w') : wpList P ops Q (o :: rest) a w :=
  wpList_plain hgd fun _ hK => wp_appR s x t ho v u v' w' hs hx hr (hK _ _ h)

def gFlat : List MsG → List Value
  | [] => []
  | m :: r => .int .i8 m.f :: .int .i8 m.t :: m.v :: .bool m.sp :: gFlat r
theorem gFlat_app : ∀ (l m : List MsG), gFlat (l ++ m) = gFlat l ++ gFlat m
  | [], _ => rfl
  | x :: r, m => by simp [gFlat, gFlat_app r m]
theorem gFlat_at : ∀ (l : List MsG) (i : Nat) (x : MsG), l[i]? = some x → ∀ j u, x.cells[j]? = some u → (gFlat l)[i * 4 + j]? = some u
  | y :: r, 0, x, h, j, u, hj => by
    simp at h; subst h
    match j, hj with
    | 0, hj => simpa [gFlat, MsG.cells] using hj
    | 1, hj => simpa [gFlat, MsG.cells] using hj
    | 2, hj => simpa [gFlat, MsG.cells] using hj
    | 3, hj => simpa [gFlat, MsG.cells] using hj
    | j + 4, hj => simp [MsG.cells] at hj
  | y :: r, i + 1, x, h, j, u, hj => by
    have := gFlat_at r i x (by simpa using h) j u hj
    rw [show (i + 1) * 4 + j = i * 4 + j + 1 + 1 + 1 + 1 by omega]
    exact this
/-- A list of messages of one's own; where their bytes lie. -/
structure OwG (w : World) (base : Nat) (v : Value) (l : List MsG) : Prop where
  row : w.ownsRow base 72 4 v l.length (gFlat l)
  own : ∀ m ∈ l, Owns w base m.v m.bs
/-- Where its bytes lie is no block of the row. -/
theorem OwG.ne {w : World} {base : Nat} {v : Value} {l : List MsG} (h : OwG w base v l) {m : MsG} (hm : m ∈ l) {k : Nat} (hk : m.v.ownBlock = some k) : v.ownBlock ≠ some k := fun e => by
  obtain ⟨cs, e1⟩ := rowTl h.row e
  obtain ⟨cs', e2⟩ := rowTl (h.own m hm) hk
  rw [e1] at e2; simp at e2
theorem OwG.sees {w : World} {base : Nat} {v : Value} {l : List MsG} (h : OwG w base v l) : SeesG w v l := by
  obtain ⟨⟨_, ⟨rfl, h0⟩ | ⟨g, cap, cur, rfl, _, a3, a4, _, _, a7⟩⟩, hs0⟩ := h
  · have : l = [] := List.length_eq_zero_iff.1 h0
    subst this
    exact ⟨none, 0, rfl, Nat.le_refl _, fun m hm => by simp at hm, fun hn => absurd rfl hn⟩
  · have hs : ∀ m ∈ l, Sees w m.v m.bs := fun m hm => Sees.own (hs0 m hm)
    refine ⟨_, cap, rfl, a4, hs, fun _ => ⟨g, 0, rfl, fun i x hx j u hj => ?_⟩⟩
    have hi : i < l.length := (List.getElem?_eq_some_iff.1 hx).1
    have hj4 : j < 4 := (List.getElem?_eq_some_iff.1 hj).1
    have e := gFlat_at l i x hx j u hj
    rw [← a7, List.getElem?_take, if_pos (by omega)] at e
    rw [Nat.zero_add, cell_of_row w g _ _ _ _ a3, ← Array.getElem?_toList]
    exact e
theorem cell_sees {w : World} {v : Value} {xs : List Int} (h : Sees w v xs) : v.oneCell' = true := by
  obtain ⟨a, c, rfl, _⟩ := h
  rfl
/-- One more message behind a list of one's own. -/
theorem app_g {w : World} {base m : Nat} {v : Value} {l : List MsG} {x : MsG} (hc : ∀ u ∈ x.cells, u.oneCell' = true) (ho : w.ownsRow base 72 4 v l.length (gFlat l)) (hm : w.heap[m]? = some (.cells x.cells.toArray 72 (0, 0))) (hl : l.length ≤ 2000000000) (hb : base ≤ w.heap.size) :
    ∃ v' w', (∀ ty, (Builtin.append_ #[35, 35] ty #[v, .slice (some ⟨m, 0, none⟩) 1 1]).run Tryd.prog w = .ok v' w') ∧ w'.ownsRow base 72 4 v' (l ++ [x]).length (gFlat (l ++ [x])) ∧ Kept w w' (fun k => v.ownBlock = some k) ∧ NewRow w v v' := by
  obtain ⟨i, hi, hz, hs, hby⟩ := infoXl Tryd.infoMs
  obtain ⟨v', w', h1, h2, h3, h4⟩ := app_row (P := Tryd.prog) base 35 35 72 i _ 4 40 Tryd.underlying35 hi hz hs hby rfl (by decide) v l.length (gFlat l) ho m x.cells rfl hm hc hl (by decide) hb
  refine ⟨v', w', fun ty => h1, ?_, ⟨h3.os, h3.tape, h3.output, h3.size, fun k hk hn => h3.block k hk (fun e => hn e.symm)⟩, ?_⟩
  · rw [List.length_append, gFlat_app]
    exact h2
  · rcases h4 with ⟨g, cap, rfl, rfl⟩ | ⟨h4, _⟩
    · exact .inl rfl
    · exact .inr ⟨_, h4, Nat.le_refl _⟩
/-- The same message, its bytes elsewhere. -/
def sameG (x y : MsG) : Prop := x.f = y.f ∧ x.t = y.t ∧ x.bs = y.bs ∧ x.sp = y.sp
theorem AlikeG.app {l l' : List MsG} {x y : MsG} (h : AlikeG l l') (g : sameG x y) : AlikeG (l ++ [x]) (l' ++ [y]) := by
  refine ⟨by simp [h.1], fun i a b ha hb => ?_⟩
  rcases Nat.lt_or_ge i l.length with hi | hi
  · rw [List.getElem?_append_left hi] at ha
    rw [List.getElem?_append_left (by have := h.1; omega)] at hb
    exact h.2 i a b ha hb
  · rw [List.getElem?_append_right hi] at ha
    rw [List.getElem?_append_right (by have := h.1; omega), ← h.1] at hb
    cases hk : i - l.length with
    | zero => rw [hk] at ha hb; simp at ha hb; subst ha hb; exact g
    | succ k => rw [hk] at ha; simp at ha
theorem AlikeG.trans {l l' l2 : List MsG} (h : AlikeG l l') (g : AlikeG l' l2) : AlikeG l l2 := ⟨h.1.trans g.1, fun i x y hx hy => by
  have hi : i < l'.length := by have := (List.getElem?_eq_some_iff.1 hx).1; have := h.1; omega
  obtain ⟨a, b, c, d⟩ := h.2 i x _ hx (List.getElem?_eq_getElem hi)
  obtain ⟨a', b', c', d'⟩ := g.2 i _ y (List.getElem?_eq_getElem hi) hy
  exact ⟨a.trans a', b.trans b', c.trans c', d.trans d'⟩⟩

set_option maxHeartbeats 4000000 in
theorem copyMs_any {w : World} {v : Value} {l : List MsG} (h : SeesG w v l) (hl : l.length ≤ 100000000) (hb : ∀ m ∈ l, m.bs.length ≤ 8192) :
    Calls Tryd.prog 54 #[v] w fun e w' => ∃ v' l', e = .returned v' ∧ OwG w' w.heap.size v' l' ∧ AlikeG l l' ∧ Below w.heap.size w w' := by
  obtain ⟨ao, cap, rfl, hlc, hse, hat⟩ := h
  have HA : Hid ((∀ m ∈ l, Sees w m.v m.bs) ∧ ∀ W, Below w.heap.size w W → ∀ (i : Nat) (m : MsG), l[i]? = some m → ∃ b off, ao = some ⟨b, off, none⟩ ∧ b < W.heap.size ∧ ∀ j u, m.cells[j]? = some u → W.cell? ⟨b, off + i * 4 + j, none⟩ = some u) := ⟨hse, fun W hW i m hm => by
    obtain ⟨b, off, e, h1⟩ := hat (fun e => by subst e; simp at hm)
    have h2 : ∀ j u, m.cells[j]? = some u → W.cell? ⟨b, off + i * 4 + j, none⟩ = some u := fun j u hj => (Below.kept hW).cell (h1 i m hm j u hj) (by have := World.block_lt_of_cell? w _ (h1 i m hm j u hj); simp at this; show ¬ w.heap.size ≤ b; omega)
    exact ⟨b, off, e, World.block_lt_of_cell? W _ (h2 0 _ rfl), h2⟩⟩
  clear hse hat
  go_enter Tryd.func54, Tryd.ntmps54
  go_wp2_with fail
  go_loopw [3, 4] (fun vc vi wr => ∃ (i : Nat) (l' : List MsG) (a : Option Addr) (c : Nat), i ≤ l.length ∧ vi = .int .i64 (i : Int) ∧ vc = .slice a l'.length c ∧ Hid (OwG wr w.heap.size (.slice a l'.length c) l' ∧ AlikeG (l.take i) l' ∧ Below w.heap.size w wr)) (fun _ vi _ => l.length - (intOf vi).toNat)
  case atStart => exact ⟨0, [], none, 0, by omega, rfl, rfl, ⟨World.ownsRow_nil _ _ _ _, fun m hm => by simp at hm⟩, ⟨rfl, fun i x y hx hy => by simp at hx⟩, Below.refl _ _⟩
  case round =>
    obtain ⟨i, l', a, c, hi, rfl, rfl, HJ⟩ := hrel
    by_cases hlt : i < l.length
    · have hd : decide ((i : Int) < (l.length : Int)) = true := by simp; omega
      obtain ⟨m, hm⟩ : ∃ m, l[i]? = some m := ⟨_, List.getElem?_eq_getElem hlt⟩
      have hmem := List.mem_of_getElem? hm
      have hms := HA.out.1 m hmem
      obtain ⟨va, vc2, hv⟩ := sees_slL hms
      obtain ⟨b, off, rfl, hz, hcl⟩ := HA.out.2 wr HJ.out.2.2 i m hm
      have q0 : wr.cell? ⟨b, off + i * 4, none⟩ = some (.int .i8 m.f) := hcl 0 _ rfl
      have q1 := hcl 1 _ rfl
      have q2 : wr.cell? ⟨b, off + i * 4 + 2, none⟩ = some (.slice va m.bs.length vc2) := by rw [← hv]; exact hcl 2 _ rfl
      have q3 := hcl 3 _ rfl
      have hll : l'.length ≤ i := by have := HJ.out.2.1.1; rw [List.length_take] at this; omega
      have bx := oneL wr (.cells #[.int .i8 m.f, .int .i8 m.t, .slice va m.bs.length vc2, .bool m.sp] 72)
      have hbx := heap_alloc_new wr (.cells #[.int .i8 m.f, .int .i8 m.t, .slice va m.bs.length vc2, .bool m.sp] 72)
      have hbm := hb m hmem
      have HX : Hid (Sees (wr.alloc (.cells #[.int .i8 m.f, .int .i8 m.t, .slice va m.bs.length vc2, .bool m.sp] 72)) (.slice va m.bs.length vc2) m.bs ∧ l[i]? = some m) := ⟨by have h5 := (hms.below HJ.out.2.2 (Nat.le_refl _)).below bx (Nat.le_refl _); rw [hv] at h5; exact h5, hm⟩
      have t2 : (wr.alloc (.cells #[.int .i8 m.f, .int .i8 m.t, .slice va m.bs.length vc2, .bool m.sp] 72)).cell? ⟨wr.heap.size, 2, none⟩ = some (.slice va m.bs.length vc2) := by rw [cell_of_row _ _ _ _ _ _ hbx]; rfl
      clear hcl hms hm hmem
      go_wp2_with fail
      refine Calls.mono (copyBytes_any _ m.bs _ HX.out.1 (by omega)) ?_
      rintro _ w4 ⟨v4, rfl, ho4, b4⟩
      obtain ⟨a4, c4, rfl⟩ := rowSl ho4
      have hs1 : (wr.alloc (.cells #[.int .i8 m.f, .int .i8 m.t, .slice va m.bs.length vc2, .bool m.sp] 72)).heap.size = wr.heap.size + 1 := World.size_alloc _ _
      have hbx4 := boxL hbx b4
      have f4 : w4.frozen? ⟨wr.heap.size, 2, none⟩ = false := frozen_of_row _ _ _ _ _ hbx4
      have u0 : w4.cell? ⟨wr.heap.size, 0, none⟩ = some (.int .i8 m.f) := by rw [cell_of_row _ _ _ _ _ _ hbx4]; rfl
      have u1 : w4.cell? ⟨wr.heap.size, 1, none⟩ = some (.int .i8 m.t) := by rw [cell_of_row _ _ _ _ _ _ hbx4]; rfl
      have u2 : w4.cell? ⟨wr.heap.size, 2, none⟩ = some (.slice va m.bs.length vc2) := by rw [cell_of_row _ _ _ _ _ _ hbx4]; rfl
      have u3 : w4.cell? ⟨wr.heap.size, 3, none⟩ = some (.bool m.sp) := by rw [cell_of_row _ _ _ _ _ _ hbx4]; rfl
      have hz4 := lt_of_block hbx4
      obtain ⟨w5, hw5⟩ : ∃ w5, w5 = w4.setCell ⟨wr.heap.size, 2, none⟩ (.slice a4 m.bs.length c4) := ⟨_, rfl⟩
      have k5 : Kept w4 w5 (· = wr.heap.size) := by rw [hw5]; exact Kept.setCell (S := (· = wr.heap.size)) (Kept.refl w4 _) _ _ (fun _ => rfl)
      have hbx5 : w5.heap[wr.heap.size]? = some (.cells #[.int .i8 m.f, .int .i8 m.t, .slice a4 m.bs.length c4, .bool m.sp] 72 (0, 0)) := by
        rw [hw5, setCell_eq_setRow w4 _ 2 _ _ _ _ hbx4, setRow_heap w4 _ _ _ _ _ hbx4]; rfl
      have HW5 : Hid (w5 = w4.setCell ⟨wr.heap.size, 2, none⟩ (.slice a4 m.bs.length c4)) := hw5
      clear hw5
      have hwr := HJ.out.2.2.size
      have b5 : Below wr.heap.size wr w5 := (bx.trans (b4.mono (by omega))).trans (k5.below (by have := b4.size; omega) (fun k e => by omega))
      have t0 : w5.cell? ⟨wr.heap.size, 0, none⟩ = some (.int .i8 m.f) := by rw [cell_of_row _ _ _ _ _ _ hbx5]; rfl
      have t1 : w5.cell? ⟨wr.heap.size, 1, none⟩ = some (.int .i8 m.t) := by rw [cell_of_row _ _ _ _ _ _ hbx5]; rfl
      have t22 : w5.cell? ⟨wr.heap.size, 2, none⟩ = some (.slice a4 m.bs.length c4) := by rw [cell_of_row _ _ _ _ _ _ hbx5]; rfl
      have t3 : w5.cell? ⟨wr.heap.size, 3, none⟩ = some (.bool m.sp) := by rw [cell_of_row _ _ _ _ _ _ hbx5]; rfl
      have hz5 := lt_of_block hbx5
      have bx6 := oneL w5 (.cells #[.int .i8 m.f, .int .i8 m.t, .slice a4 m.bs.length c4, .bool m.sp] 72)
      have b6 : Below wr.heap.size wr (w5.alloc (.cells #[.int .i8 m.f, .int .i8 m.t, .slice a4 m.bs.length c4, .bool m.sp] 72)) := b5.trans (bx6.mono b5.size)
      obtain ⟨v7, w7, hr, ho7, hk7, _⟩ := app_g (x := ⟨m.f, m.t, .slice a4 m.bs.length c4, m.bs, m.sp⟩) (fun u hu => by simp at hu; rcases hu with rfl | rfl | rfl | rfl <;> rfl) (rowKl HJ.out.1.row (Below.kept b6) (fun g hg => by have := (HJ.out.1.row.lt g hg).2; omega)) (heap_alloc_new w5 _) (by omega) (Nat.le_trans hwr b6.size)
      obtain ⟨a7, c7, rfl⟩ := rowSl ho7
      have HJ7 : Hid (OwG w7 w.heap.size (.slice a7 (l' ++ [(⟨m.f, m.t, .slice a4 m.bs.length c4, m.bs, m.sp⟩ : MsG)]).length c7) (l' ++ [⟨m.f, m.t, .slice a4 m.bs.length c4, m.bs, m.sp⟩]) ∧ AlikeG (l.take (i + 1)) (l' ++ [⟨m.f, m.t, .slice a4 m.bs.length c4, m.bs, m.sp⟩]) ∧ Below w.heap.size w w7) := by
        have o5 : Owns w5 w.heap.size (.slice a4 m.bs.length c4) m.bs := Owns.kept (row_lowerl ho4 (by omega)) k5 (fun k e e2 => by have := (ho4.lt k e).1; omega)
        have o6 := Owns.kept o5 (Below.kept bx6) (fun k e => by have := (o5.lt k e).2; omega)
        have o7 := Owns.kept o6 hk7 (fun k e e2 => by
          have h1 := (ho4.lt k e).1
          have h2 := (HJ.out.1.row.lt k e2).2
          omega)
        refine ⟨⟨ho7, fun m2 hm2 => ?_⟩, ?_, HJ.out.2.2.trans ((b6.mono hwr).trans (hk7.below (Nat.le_trans hwr b6.size) (fun k e => (HJ.out.1.row.lt k e).1)))⟩
        · rcases List.mem_append.1 hm2 with hm2 | hm2
          · have hq := HJ.out.1.own m2 hm2
            exact Owns.kept (Owns.kept hq (Below.kept b6) (fun k e => by have := (hq.lt k e).2; omega)) hk7 (fun k e => HJ.out.1.ne hm2 e)
          · simp at hm2; subst hm2; exact o7
        · rw [take_atL HX.out.2]
          exact HJ.out.2.1.app ⟨rfl, rfl, rfl, rfl⟩
      clear hbx hbx4 hbx5 ho4 b4 k5 b5 bx bx6 b6 ho7 hk7 HJ
      go_upto_region 7 with fail
      rw [← HW5.out]
      clear HW5 f4 u0 u1 u2 u3 hz4 q0 q1 q2 q3 t2
      go_wp2_with (at_builtin; refine wpList_appM _ rfl _ _ 35 rfl _ _ rfl rfl (hr _) ?_)
      exact ⟨⟨i + 1, _, a7, c7, hlt, rfl, by first | rfl | simp, HJ7.out⟩, by simp [intOf]; omega⟩
    · have hd : decide ((i : Int) < (l.length : Int)) = false := by simp; omega
      go_wp2_with fail
      all_goals (go_ret; exact ⟨_, l', rfl, HJ.out.1, by have := HJ.out.2.1; rw [List.take_of_length_le (by omega)] at this; exact this, HJ.out.2.2⟩)
end Go.Proofs.YtghngopclhhoeaaDoor
