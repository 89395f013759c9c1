/- What the Writer's calls of package pack do: each puts the bytes of its value behind those that the Writer has. -/
import Derived.Test.YtoeialngbbfoeaaGreatDoorProg
import Derived.Test.YtoeialngbbfoeaaGreatDoorLeafSumJ
import Derived.Lib.SliceRun
import Derived.WalkKit
import Derived.Laws.FloatArith
import Derived.Laws.Externs
import Derived.WalkLawsBesides
import Derived.Laws.BytesArg
import Derived.Test.YtoeialngbbfoeaaGreatDoorEqRJ
namespace Go.Proofs.YtoeialngbbfoeaaGreatDoor
open Go.RowKit
set_option maxRecDepth 8000

theorem Tryz.infoByte' : (Tryz.prog.info? 5).map (fun i => (i.zero, i.size, i.bytes)) = some (some (.int .u8 0), 1, 1) := by kernel_rfl

/-- What a call that puts bytes leaves: the Writer at g with the bytes xs; all else but its row is as it was. -/
def Puts (w : World) (g : Nat) (v : Value) (xs : List Int) (w' : World) : Prop :=
  ∃ v', IsW w' g v' xs ∧ NewRow w v v' ∧ Kept w w' (fun k => k = g ∨ v.ownBlock = some k)

/-- Behind an append to the field and the store of what it answers. -/
theorem puts_mk {w w1 : World} {g : Nat} {v v' : Value} {xs ys : List Int} (h : IsW w g v xs) (hown : Owns w1 0 v' (xs ++ ys)) (hgrow : w.grownBy w1 v.ownBlock) (hnew : NewRow w v v') :
    Puts w g v (xs ++ ys) (w1.setCell ⟨g, 0, none⟩ v') := by
  have hk : Kept w w1 (fun k => k = g ∨ v.ownBlock = some k) := (Kept.refl w _).grown hgrow (fun k _ e => .inr e)
  have hg1 : w1.heap[g]? = some (.cells #[v] 108 (0, 0)) := by
    rw [hgrow.block g (lt_of_block h.1) (fun e => h.apart e.symm)]; exact h.1
  have hap : v'.ownBlock ≠ some g := by
    rcases hnew with e | ⟨k, e, hk⟩
    · rw [e]; exact h.apart
    · rw [e]; intro e2; simp at e2; subst e2; have := lt_of_block h.1; omega
  exact ⟨v', ⟨one_setCell hg1, ownsRow_setCell_other hown hap _⟩, hnew, hk.setCell _ _ (fun _ => .inl rfl)⟩

theorem Puts.next {w w1 w2 : World} {g : Nat} {v v1 : Value} {ys : List Int} (hnew : NewRow w v v1) (hk : Kept w w1 (fun k => k = g ∨ v.ownBlock = some k)) (h2 : Puts w1 g v1 ys w2) : Puts w g v ys w2 := by
  obtain ⟨v2, k1, k2, k3⟩ := h2
  refine ⟨v2, k1, ?_, hk.trans k3 ?_⟩
  · rcases k2 with e | ⟨b, e, hb⟩
    · rcases hnew with e' | ⟨b, e', hb⟩
      · exact .inl (e.trans e')
      · exact .inr ⟨b, e.trans e', hb⟩
    · exact .inr ⟨b, e, by have := hk.size; omega⟩
  · intro b hb hs
    rcases hs with hs | hs
    · exact .inl hs
    · rcases hnew with e' | ⟨b', e', hb'⟩
      · exact .inr (by rw [← e']; exact hs)
      · rw [e'] at hs; simp at hs; omega

set_option maxHeartbeats 400000 in
theorem add_any (g : Nat) (v u : Value) (xs ys : List Int) (w : World) (h : IsW w g v xs) (hu : Sees w u ys) (hb : xs.length + ys.length ≤ 140737488355328) :
    Calls Tryz.prog 109 #[.pointer (some ⟨g, 0, none⟩), u] w fun e w' => e = .returned (.tuple #[]) ∧ Puts w g v (xs ++ ys) w' := by
  obtain ⟨i0, hi, hz0, hz1, hz2⟩ := info_parts Tryz.infoByte'
  have hc := cell_of_one h.1
  have hf := free_of_one h.1
  have H : Hid (IsW w g v xs) := h
  have HU : Hid (Sees w u ys) := hu
  clear h hu
  go_enter Tryz.func109, Tryz.ntmps109
  go_wp2_with (at_builtin; refine wpList_app _ rfl _ _ 28 rfl i0 Tryz.underlying28 hi hz0 hz1 hz2 v u xs ys rfl rfl H.out.2 HU.out hb ?_)
  intro v' w1 hown hgrow hnew
  have R := puts_mk H.out hown hgrow hnew
  have hc1 : w1.cell? ⟨g, 0, none⟩ = some v := hgrow.cell hc (fun e => H.out.apart e.symm)
  have hf1 : w1.frozen? ⟨g, 0, none⟩ = false := by
    rw [World.frozen?_of_block (hgrow.block g (lt_of_block H.out.1) (fun e => H.out.apart e.symm))]; exact hf
  have HR : Hid (Puts w g v (xs ++ ys) (w1.setCell ⟨g, 0, none⟩ v')) := R
  obtain ⟨ao', n', c', hv'⟩ := owns_shape hown
  clear R hown hgrow hnew hc hf
  subst hv'
  go_wp2
  go_end0
  exact ⟨rfl, HR.out⟩

/-- A list of bytes that has just been laid in a new block. -/
theorem sees_new {w : World} (cs : Array Value) (ys : List Int) (hl : ys.length ≤ 4096) (h : cs.toList = ys.map (Value.int .u8)) : Sees (w.alloc (.cells cs 5)) (.slice (some ⟨w.heap.size, 0, none⟩) ys.length ys.length) ys := by
  refine ⟨_, _, rfl, Nat.le_refl _, by unfold maxLen; omega, fun e => by simp at e, .inr ⟨_, _, rfl, fun i hi => ?_⟩⟩
  rw [Nat.zero_add, cell_of_row _ w.heap.size i cs 5 (0, 0) (heap_alloc_new w _), ← Array.getElem?_toList, h]
  simp [hi, List.getD_eq_getElem?_getD]

theorem IsW.alloc {w : World} {g : Nat} {v : Value} {xs : List Int} (h : IsW w g v xs) (o : Obj) : IsW (w.alloc o) g v xs := h.kept ((Kept.refl w (fun _ => False)).alloc o) (fun h => h) (fun _ _ h => h)

theorem Puts.of_alloc {w w' : World} {o : Obj} {g : Nat} {v : Value} {xs : List Int} (h : Puts (w.alloc o) g v xs w') : Puts w g v xs w' := by
  obtain ⟨v', h1, h2, h3⟩ := h
  refine ⟨v', h1, ?_, ((Kept.refl w _).alloc o).trans h3 (fun _ _ h => h)⟩
  rcases h2 with e | ⟨k, e, hk⟩
  · exact .inl e
  · exact .inr ⟨k, e, by simp at hk; omega⟩

/-- The bytes of a number from 0 on, the highest first. -/
def be4 (n : Int) : List Int := [n / 16777216, n / 65536 % 256, n / 256 % 256, n % 256]

set_option maxHeartbeats 400000 in
theorem wUint32_any (g : Nat) (v : Value) (xs : List Int) (n : Int) (w : World) (h : IsW w g v xs) (hn : 0 ≤ n) (hn' : n < 4294967296) (hb : xs.length + 4 ≤ 140737488355328) :
    Calls Tryz.prog 53 #[.pointer (some ⟨g, 0, none⟩), .int .u32 n] w fun e w' => e = .returned (.tuple #[]) ∧ Puts w g v (xs ++ be4 n) w' := by
  have H : Hid (IsW w g v xs) := h
  clear h
  go_enter Tryz.func53, Tryz.ntmps53
  go_wp2_with fail
  refine (add_any g v _ xs (be4 n) _ (H.out.alloc _) (sees_new _ (be4 n) (by simp [be4]) (by simp [be4])) (by simp [be4]; omega)).mono ?_
  rintro e w1 ⟨rfl, hp⟩
  have HP : Hid (Puts w g v (xs ++ be4 n) w1) := hp.of_alloc
  clear hp
  go_wp2
  go_end0
  exact ⟨rfl, HP.out⟩

/-- An int32's number in its four bytes: below 0 2^32 more. -/
def up32 (n : Int) : Int := n % 4294967296

set_option maxHeartbeats 400000 in
theorem wInt32_any (g : Nat) (v : Value) (xs : List Int) (n : Int) (w : World) (h : IsW w g v xs) (hb : xs.length + 4 ≤ 140737488355328) :
    Calls Tryz.prog 116 #[.pointer (some ⟨g, 0, none⟩), .int .i32 n] w fun e w' => e = .returned (.tuple #[]) ∧ Puts w g v (xs ++ be4 (up32 n)) w' := by
  have H : Hid (IsW w g v xs) := h
  clear h
  go_enter Tryz.func116, Tryz.ntmps116
  go_wp2_with fail
  refine (wUint32_any g v xs (up32 n) _ H.out (by unfold up32; omega) (by unfold up32; omega) hb).mono ?_
  rintro e w1 ⟨rfl, hp⟩
  have HP : Hid (Puts w g v (xs ++ be4 (up32 n)) w1) := hp
  clear hp
  go_wp2
  go_end0
  exact ⟨rfl, HP.out⟩

/-- bytes.Clone: nil of nil; else the bytes in a new row. -/
theorem clone_any (u : Value) (ys : List Int) (w : World) (hu : Sees w u ys) (hb : ys.length ≤ 140737488355328) :
    Calls Tryz.prog 122 #[u] w fun e w' => ∃ v', e = .returned v' ∧ Owns w' w.heap.size v' ys ∧ Below w.heap.size w w' := by
  obtain ⟨i0, hi, hz0, hz1, hz2⟩ := info_parts Tryz.infoByte'
  have HU : Hid (Sees w u ys) := hu
  obtain ⟨ao, cap, rfl, h1, h2, h0, h3⟩ := hu
  cases ao with
  | none =>
    have hy : ys = [] := List.eq_nil_of_length_eq_zero (by have := h0 rfl; omega)
    subst hy
    obtain rfl := h0 rfl
    clear HU h3
    have hnil : ∀ w, (binOp .eql 28 (.slice none 0 0) (.slice none 0 0)).run Tryz.prog w = .ok (.bool true) w := fun w => Lib.run_eql_slice_nil w 28 5 none 0 0 0 0 Tryz.underlying28
    go_enter Tryz.func122, Tryz.ntmps122
    go_wp2
    go_ret
    exact ⟨_, rfl, World.ownsRow_nil _ _ _ _, Below.refl _ _⟩
  | some ad =>
    clear h3 h0
    have hnil : ∀ w, (binOp .eql 28 (.slice (some ad) ys.length cap) (.slice none 0 0)).run Tryz.prog w = .ok (.bool false) w := fun w => Lib.run_eql_slice_nil w 28 5 (some ad) ys.length cap 0 0 Tryz.underlying28
    have hown0 : Owns (w.alloc (.cells #[] 5)) 0 (.slice (some ⟨w.heap.size, 0, none⟩) 0 0) [] := World.ownsRow_lit w #[] 0 (Nat.zero_le _) (Nat.zero_le _) rfl
    have HO : Hid (Owns (w.alloc (.cells #[] 5)) 0 (.slice (some ⟨w.heap.size, 0, none⟩) 0 0) []) := hown0
    clear hown0
    go_enter Tryz.func122, Tryz.ntmps122
    go_wp2_with (at_builtin; refine wpList_app _ rfl (.tmp 5) (.tmp 6) 28 rfl i0 Tryz.underlying28 hi hz0 hz1 hz2 _ _ [] ys rfl rfl HO.out (HU.out.below ((Below.refl w.heap.size _).alloc (Nat.le_refl _) _) (Nat.le_refl _)) (by simpa using hb) ?_)
    intro v' w1 hown hgrow hnew
    have hbel : Below w.heap.size w w1 := ((Below.refl w.heap.size w).alloc (Nat.le_refl _) _).grown hgrow (by simp) (fun k hk => by simp [Value.ownBlock] at hk; omega)
    have hown' : Owns w1 w.heap.size v' ys := owns_base hown (fun k hk => by
      rcases hnew with e | ⟨j, e, hj⟩
      · rw [e] at hk; simp [Value.ownBlock] at hk; omega
      · rw [e] at hk; simp at hk hj; omega)
    have HR : Hid (Owns w1 w.heap.size v' ys) := hown'
    clear hown hgrow hnew HO HU hown'
    go_wp2
    go_ret
    exact ⟨_, rfl, HR.out, hbel⟩

set_option maxHeartbeats 400000 in
theorem wBytes_any (g : Nat) (v : Value) (xs : List Int) (w : World) (h : IsW w g v xs) (hb : xs.length ≤ 140737488355328) :
    Calls Tryz.prog 58 #[.pointer (some ⟨g, 0, none⟩)] w fun e w' => ∃ v', e = .returned v' ∧ Owns w' w.heap.size v' xs ∧ Below w.heap.size w w' := by
  have hc := cell_of_one h.1
  have H : Hid (IsW w g v xs) := h
  clear h
  go_enter Tryz.func58, Tryz.ntmps58
  go_wp2_with fail
  refine (clone_any v xs _ (Sees.own H.out.2) hb).mono ?_
  rintro e w1 ⟨v', rfl, hp⟩
  have HP : Hid (Owns w1 w.heap.size v' xs ∧ Below w.heap.size w w1) := hp
  clear hp
  go_wp2
  go_ret
  exact ⟨_, rfl, HP.out⟩

end Go.Proofs.YtoeialngbbfoeaaGreatDoor

/- What the Reader's calls of package pack do: what is answered, what is left, and the fault. -/
namespace Go.Proofs.YtoeialngbbfoeaaGreatDoor
open Go.RowKit
set_option maxRecDepth 8000

section
variable {w : World} {g : Nat} {v : Value} {xs : List Int} {f : Int}
theorem IsR.kept {w' : World} {S : Nat → Prop} (h : IsR w g v xs f) (hk : Kept w w' S) (hg : ¬ S g) (hn : ∀ k, v.ownBlock = some k → ¬ S k) : IsR w' g v xs f :=
  ⟨hk.heap h.1 hg, h.2.kept hk hn⟩
theorem IsR.c0 (h : IsR w g v xs f) : w.cell? ⟨g, 0, none⟩ = some (.bool true) := by rw [cell_of_row w g 0 _ _ _ h.1]; rfl
theorem IsR.c1 (h : IsR w g v xs f) : w.cell? ⟨g, 1, none⟩ = some v := by rw [cell_of_row w g 1 _ _ _ h.1]; rfl
theorem IsR.c2 (h : IsR w g v xs f) : w.cell? ⟨g, 2, none⟩ = some (.int .i64 f) := by rw [cell_of_row w g 2 _ _ _ h.1]; rfl
theorem IsR.fr (h : IsR w g v xs f) (j : Nat) : w.frozen? ⟨g, j, none⟩ = false := frozen_of_row w g j _ _ h.1

theorem IsR.apart (h : IsR w g v xs f) (hx : xs ≠ []) : v.ownBlock ≠ some g := by
  obtain ⟨h1, h2⟩ := h
  obtain ⟨ao, cap, rfl, g1, g2, g0, g3⟩ := h2
  rcases g3 with g3 | ⟨b, off, rfl, g3⟩
  · exact absurd g3 hx
  · intro e
    simp [Value.ownBlock] at e
    subst e
    have hl : 0 < xs.length := List.length_pos_iff.2 hx
    have := g3 0 hl
    rw [cell_of_row w b _ _ _ _ h1] at this
    match off, this with
    | 0, t => simp at t
    | 1, t => simp at t
    | 2, t => simp at t
    | n + 3, t => simp at t

/-- A slice that is seen stays so while a block changes in which it has no byte. -/
theorem Sees.set (h : Sees w v xs) (a : Addr) (u : Value) (hn : xs ≠ [] → v.ownBlock ≠ some a.block) : Sees (w.setCell a u) v xs := by
  obtain ⟨ao, cap, rfl, g1, g2, g0, g3⟩ := h
  refine ⟨ao, cap, rfl, g1, g2, g0, ?_⟩
  by_cases hx : xs = []
  · exact .inl hx
  · rcases g3 with g3 | ⟨b, off, rfl, g3⟩
    · exact .inl g3
    · refine .inr ⟨b, off, rfl, fun i hi => ?_⟩
      have hb : b ≠ a.block := fun e => hn hx (by simp [Value.ownBlock, e])
      rw [World.cell?_of_block (w := w) (w' := w.setCell a u) (Below.heap_setCell w a u b hb)]
      exact g3 i hi

theorem IsR.fail (h : IsR w g v xs f) (e : Int) : IsR (w.setCell ⟨g, 2, none⟩ (.int .i64 e)) g v xs e := by
  refine ⟨?_, h.2.set _ _ (fun hx => h.apart hx)⟩
  rw [heap_setCell_same w g 2 _ _ _ h.1]; rfl

theorem IsR.turn (h : IsR w g v xs f) {v' : Value} {ys : List Int} (hv : Sees w v' ys) (hap : ys ≠ [] → v'.ownBlock ≠ some g) : IsR (w.setCell ⟨g, 1, none⟩ v') g v' ys f := by
  refine ⟨?_, hv.set _ _ (fun hx => hap hx)⟩
  rw [heap_setCell_same w g 1 _ _ _ h.1]; rfl
end

theorem rErr_any (g : Nat) (v : Value) (xs : List Int) (f : Int) (w : World) (h : IsR w g v xs f) :
    Calls Tryz.prog 134 #[.pointer (some ⟨g, 0, none⟩)] w fun e w' => e = .returned (.int .i64 f) ∧ w' = w := by
  have h0 := h.c0
  have h2 := h.c2
  clear h
  go_enter Tryz.func134, Tryz.ntmps134
  go_wp2
  go_ret
  exact ⟨rfl, rfl⟩

theorem rReads_any (g : Nat) (v : Value) (xs : List Int) (f : Int) (w : World) (h : IsR w g v xs f) :
    Calls Tryz.prog 146 #[.pointer (some ⟨g, 0, none⟩)] w fun e w' => e = .returned (.bool (f == 0)) ∧ w' = w := by
  have H : Hid (IsR w g v xs f) := h
  clear h
  go_enter Tryz.func146, Tryz.ntmps146
  go_wp2_with fail
  refine (rErr_any g v xs f _ H.out).mono ?_
  rintro e w1 ⟨rfl, rfl⟩
  go_wp2
  go_ret
  exact ⟨rfl, rfl⟩

theorem sees_take {w : World} {ao : Option Addr} {xs : List Int} {cap n : Nat} (h : Sees w (.slice ao xs.length cap) xs) (hn : n ≤ xs.length) : Sees w (.slice ao n n) (xs.take n) := by
  obtain ⟨ao', cap', e, g1, g2, g0, g3⟩ := h
  simp at e
  obtain ⟨rfl, rfl⟩ := e
  have hl : (xs.take n).length = n := by simp; omega
  refine ⟨ao, n, by rw [hl], by omega, by omega, fun e => by have := g0 e; omega, ?_⟩
  by_cases hx : n = 0
  · subst hx; exact .inl (by simp)
  · rcases g3 with g3 | ⟨b, off, rfl, g3⟩
    · subst g3; exact .inl (by simp)
    · refine .inr ⟨b, off, rfl, fun i hi => ?_⟩
      rw [g3 i (by omega)]
      have : i < n := by omega
      simp [List.getD_eq_getElem?_getD, this]

set_option maxHeartbeats 400000 in
theorem rPeek_ok (g : Nat) (v : Value) (xs : List Int) (n : Nat) (w : World) (h : IsR w g v xs 0) (hn : n ≤ xs.length) :
    Calls Tryz.prog 152 #[.pointer (some ⟨g, 0, none⟩), .int .i64 n] w fun e w' => ∃ ao, e = .returned (.tuple #[.slice ao n n, .bool true]) ∧ Sees w (.slice ao n n) (xs.take n) ∧ (∃ l c, v = .slice ao l c) ∧ w' = w := by
  have H : Hid (IsR w g v xs 0) := h
  have h1 := h.c1
  obtain ⟨ao, cap, rfl, g1, g2, g0, g3⟩ := h.2
  clear h g3
  unfold maxLen at g2
  go_enter Tryz.func152, Tryz.ntmps152
  go_wp2_with fail
  refine (rReads_any g _ xs 0 _ H.out).mono ?_
  rintro e w1 ⟨rfl, rfl⟩
  go_wp2
  go_ret2
  exact ⟨_, rfl, sees_take H.out.2 hn, ⟨_, _, rfl⟩, rfl⟩

set_option maxHeartbeats 400000 in
theorem rPeek_short (g : Nat) (v : Value) (xs : List Int) (n : Nat) (w : World) (h : IsR w g v xs 0) (hn : xs.length < n) :
    Calls Tryz.prog 152 #[.pointer (some ⟨g, 0, none⟩), .int .i64 n] w fun e w' => e = .returned (.tuple #[.slice none 0 0, .bool false]) ∧ w' = w.setCell ⟨g, 2, none⟩ (.int .i64 10) := by
  have H : Hid (IsR w g v xs 0) := h
  have h1 := h.c1
  have h2 := h.c2
  have h3 := h.fr 2
  obtain ⟨ao, cap, rfl, g1, g2, g0, g3⟩ := h.2
  clear h g3
  unfold maxLen at g2
  go_enter Tryz.func152, Tryz.ntmps152
  go_wp2_with fail
  refine (rReads_any g _ xs 0 _ H.out).mono ?_
  rintro e w1 ⟨rfl, rfl⟩
  go_wp2
  go_ret2
  exact ⟨rfl, rfl⟩

set_option maxHeartbeats 400000 in
theorem rPeek_neg (g : Nat) (v : Value) (xs : List Int) (n : Int) (w : World) (h : IsR w g v xs 0) (hn : n < 0) :
    Calls Tryz.prog 152 #[.pointer (some ⟨g, 0, none⟩), .int .i64 n] w fun e w' => e = .returned (.tuple #[.slice none 0 0, .bool false]) ∧ w' = w.setCell ⟨g, 2, none⟩ (.int .i64 11) := by
  have H : Hid (IsR w g v xs 0) := h
  have h2 := h.c2
  have h3 := h.fr 2
  clear h
  go_enter Tryz.func152, Tryz.ntmps152
  go_wp2_with fail
  refine (rReads_any g _ xs 0 _ H.out).mono ?_
  rintro e w1 ⟨rfl, rfl⟩
  go_wp2
  go_ret2
  exact ⟨rfl, rfl⟩

set_option maxHeartbeats 400000 in
theorem rPeek_fault (g : Nat) (v : Value) (xs : List Int) (n : Int) (f : Int) (w : World) (h : IsR w g v xs f) (hf : f ≠ 0) :
    Calls Tryz.prog 152 #[.pointer (some ⟨g, 0, none⟩), .int .i64 n] w fun e w' => e = .returned (.tuple #[.slice none 0 0, .bool false]) ∧ w' = w := by
  have H : Hid (IsR w g v xs f) := h
  clear h
  have hf' : (f == 0) = false := by simp [hf]
  clear hf
  go_enter Tryz.func152, Tryz.ntmps152
  go_wp2_with fail
  refine (rReads_any g _ xs f _ H.out).mono ?_
  rintro e w1 ⟨rfl, rfl⟩
  go_wp2
  go_ret2
  exact ⟨rfl, rfl⟩

set_option maxHeartbeats 400000 in
theorem join_any (v : Value) (xs : List Int) (w : World) (h : Sees w v xs) (hb : Byts xs) (h8 : xs.length ≤ 8) :
    Calls Tryz.prog 144 #[v] w fun e w' => e = .returned (.int .u64 (num xs)) ∧ w' = w := by
  obtain ⟨ao, cap, rfl, hlc, hcm, _, h3⟩ := h
  unfold maxLen at hcm
  go_enter Tryz.func144, Tryz.ntmps144
  go_wp2
  go_loop [3, 8] (fun a i => ∃ k : Nat, k ≤ xs.length ∧ i = .int .i64 k ∧ a = .int .u64 (num (xs.take k))) (fun _ i => xs.length - (intOf i).toNat)
  case atStart => exact ⟨0, Nat.zero_le _, rfl, rfl⟩
  case round =>
    obtain ⟨k, hk, rfl, rfl⟩ := hrel
    by_cases hlt : k < xs.length
    · rcases h3 with h3 | ⟨b, off, rfl, h3⟩
      · subst h3; simp at hlt
      · have hd := num_bd8 xs hb k hlt h8
        have hc := h3 k hlt
        have hx := hb.nth k
        have HS : Hid _ := num_next xs k hlt
        generalize xs.getD k 0 = x at *
        generalize hA : num (xs.take k) = A at *
        clear hA h3 hb
        go_wp2
        go_round
        case rel => exact ⟨k + 1, by omega, by go_num, by rw [HS.out, num_or A x hd.1 hd.2 hx.1 hx.2]⟩
        case measure => simp [intOf]; omega
    · obtain rfl : k = xs.length := by omega
      rw [List.take_length] at *
      go_wp2
      go_ret
      exact ⟨rfl, rfl⟩

/-- What is left of a slice behind its first n bytes, as Go cuts it. -/
def cutFrom (v : Value) (n : Nat) : Value := match v with
  | .slice ao l c => if c = n then .slice ao (l - n) 0 else .slice (ao.map (·.add n)) (l - n) (c - n)
  | u => u

theorem addr_add (b off n : Nat) : (⟨b, off, none⟩ : Addr).add n = ⟨b, off + n, none⟩ := by
  by_cases h : n = 0
  · subst h; simp [Addr.add]
  · simp [Addr.add, h]

theorem sees_drop {w : World} {ao : Option Addr} {xs : List Int} {cap n : Nat} (h : Sees w (.slice ao xs.length cap) xs) (hn : n ≤ xs.length) : Sees w (cutFrom (.slice ao xs.length cap) n) (xs.drop n) := by
  obtain ⟨ao', cap', e, g1, g2, g0, g3⟩ := h
  simp at e
  obtain ⟨rfl, rfl⟩ := e
  have hl : (xs.drop n).length = xs.length - n := by simp
  unfold cutFrom
  simp only
  by_cases hc : cap = n
  · rw [if_pos hc]
    have : xs.drop n = [] := List.eq_nil_of_length_eq_zero (by omega)
    exact ⟨ao, 0, by rw [hl], by omega, by unfold maxLen; omega, fun _ => rfl, .inl this⟩
  · rw [if_neg hc]
    refine ⟨_, cap - n, by rw [hl], by omega, by omega, fun e => ?_, ?_⟩
    · cases ao with
      | none => have := g0 rfl; omega
      | some a => simp at e
    · rcases g3 with g3 | ⟨b, off, rfl, g3⟩
      · subst g3; exact .inl (by simp)
      · refine .inr ⟨b, off + n, by simp [addr_add], fun i hi => ?_⟩
        have := g3 (n + i) (by omega)
        rw [Nat.add_assoc, this]
        simp [List.getD_eq_getElem?_getD]

theorem cutFrom_block {ao : Option Addr} {l c n k : Nat} (h : (cutFrom (.slice ao l c) n).ownBlock = some k) : (Value.slice ao l c).ownBlock = some k := by
  unfold cutFrom at h
  simp only at h
  by_cases hc : c = n
  · rw [if_pos hc] at h
    cases ao with
    | none => simp [Value.ownBlock] at h
    | some a => simpa [Value.ownBlock] using h
  · rw [if_neg hc] at h
    cases ao with
    | none => simp [Value.ownBlock] at h
    | some a =>
      obtain ⟨b, off, sp⟩ := a
      simp [Value.ownBlock, Addr.add] at h ⊢
      by_cases hn : n = 0
      · simpa [hn] using h
      · simpa [hn] using h

theorem IsR.skip {w : World} {g : Nat} {v : Value} {xs : List Int} {f : Int} {n : Nat} (h : IsR w g v xs f) (hn : n ≤ xs.length) : IsR (w.setCell ⟨g, 1, none⟩ (cutFrom v n)) g (cutFrom v n) (xs.drop n) f := by
  have h2 := h.2
  obtain ⟨ao, cap, rfl, g1, g2, g0, g3⟩ := h2
  refine h.turn (sees_drop h.2 hn) (fun hx e => ?_)
  exact h.apart (fun e2 => hx (by rw [e2]; simp)) (cutFrom_block e)

set_option maxHeartbeats 400000 in
theorem rSkip_ok (g : Nat) (v : Value) (xs : List Int) (n : Nat) (f : Int) (w : World) (h : IsR w g v xs f) (hn : n ≤ xs.length) :
    Calls Tryz.prog 150 #[.pointer (some ⟨g, 0, none⟩), .int .i64 n] w fun e w' => e = .returned (.tuple #[]) ∧ w' = w.setCell ⟨g, 1, none⟩ (cutFrom v n) := by
  have h1 := h.c1
  have hf := h.fr 1
  obtain ⟨ao, cap, rfl, g1, g2, g0, g3⟩ := h.2
  clear h g3
  unfold maxLen at g2
  by_cases hc : cap = n
  · have e : cutFrom (.slice ao xs.length cap) n = .slice ao (xs.length - n) 0 := by unfold cutFrom; simp [hc]
    rw [e]
    clear e
    subst hc
    go_enter Tryz.func150, Tryz.ntmps150
    go_wp2
    go_end0
    exact ⟨rfl, by rw [show xs.length - cap = 0 by omega]⟩
  · have e : cutFrom (.slice ao xs.length cap) n = .slice (ao.map (·.add n)) (xs.length - n) (cap - n) := by unfold cutFrom; simp [hc]
    rw [e]
    clear e
    go_enter Tryz.func150, Tryz.ntmps150
    go_wp2
    go_end0
    exact ⟨rfl, rfl⟩

/-- A Reader's state behind a call. -/
structure Rd where
  out : Int
  rest : List Int
  fault : Int

/-- n bytes as a number: by the document. -/
def rdNum (n : Nat) (xs : List Int) (f : Int) : Rd :=
  if f ≠ 0 then ⟨0, xs, f⟩ else if xs.length < n then ⟨0, xs, 10⟩ else ⟨num (xs.take n), xs.drop n, 0⟩

set_option maxHeartbeats 400000 in
theorem rTake_ok (g : Nat) (v : Value) (xs : List Int) (n : Nat) (w : World) (h : IsR w g v xs 0) (hn : n ≤ xs.length) :
    Calls Tryz.prog 145 #[.pointer (some ⟨g, 0, none⟩), .int .i64 n] w fun e w' => ∃ ao, e = .returned (.slice ao n n) ∧ Sees w (.slice ao n n) (xs.take n) ∧ (∃ l c, v = .slice ao l c) ∧ w' = w.setCell ⟨g, 1, none⟩ (cutFrom v n) := by
  have H : Hid (IsR w g v xs 0) := h
  clear h
  go_enter Tryz.func145, Tryz.ntmps145
  go_wp2_with fail
  refine (rPeek_ok g v xs n _ H.out hn).mono ?_
  rintro e w1 ⟨ao, rfl, hs, hv, rfl⟩
  have HS : Hid (Sees w1 (.slice ao n n) (xs.take n) ∧ ∃ l c, v = .slice ao l c) := ⟨hs, hv⟩
  clear hs hv
  go_wp2_with fail
  refine (rSkip_ok g v xs n 0 _ H.out hn).mono ?_
  rintro e w2 ⟨rfl, rfl⟩
  go_wp2
  go_ret
  exact ⟨_, rfl, HS.out.1, HS.out.2, rfl⟩

set_option maxHeartbeats 400000 in
theorem rTake_short (g : Nat) (v : Value) (xs : List Int) (n : Nat) (w : World) (h : IsR w g v xs 0) (hn : xs.length < n) :
    Calls Tryz.prog 145 #[.pointer (some ⟨g, 0, none⟩), .int .i64 n] w fun e w' => e = .returned (.slice none 0 0) ∧ w' = w.setCell ⟨g, 2, none⟩ (.int .i64 10) := by
  have H : Hid (IsR w g v xs 0) := h
  clear h
  go_enter Tryz.func145, Tryz.ntmps145
  go_wp2_with fail
  refine (rPeek_short g v xs n _ H.out hn).mono ?_
  rintro e w1 ⟨rfl, rfl⟩
  go_wp2
  go_ret
  exact ⟨rfl, rfl⟩

set_option maxHeartbeats 400000 in
theorem rTake_neg (g : Nat) (v : Value) (xs : List Int) (n : Int) (w : World) (h : IsR w g v xs 0) (hn : n < 0) :
    Calls Tryz.prog 145 #[.pointer (some ⟨g, 0, none⟩), .int .i64 n] w fun e w' => e = .returned (.slice none 0 0) ∧ w' = w.setCell ⟨g, 2, none⟩ (.int .i64 11) := by
  have H : Hid (IsR w g v xs 0) := h
  clear h
  go_enter Tryz.func145, Tryz.ntmps145
  go_wp2_with fail
  refine (rPeek_neg g v xs n _ H.out hn).mono ?_
  rintro e w1 ⟨rfl, rfl⟩
  go_wp2
  go_ret
  exact ⟨rfl, rfl⟩

set_option maxHeartbeats 400000 in
theorem rTake_fault (g : Nat) (v : Value) (xs : List Int) (n : Int) (f : Int) (w : World) (h : IsR w g v xs f) (hf : f ≠ 0) :
    Calls Tryz.prog 145 #[.pointer (some ⟨g, 0, none⟩), .int .i64 n] w fun e w' => e = .returned (.slice none 0 0) ∧ w' = w := by
  have H : Hid (IsR w g v xs f ∧ f ≠ 0) := ⟨h, hf⟩
  clear h hf
  go_enter Tryz.func145, Tryz.ntmps145
  go_wp2_with fail
  refine (rPeek_fault g v xs n f _ H.out.1 H.out.2).mono ?_
  rintro e w1 ⟨rfl, rfl⟩
  go_wp2
  go_ret
  exact ⟨rfl, rfl⟩

theorem sees_nil (w : World) : Sees w (.slice none 0 0) [] := ⟨none, 0, rfl, Nat.le_refl _, by unfold maxLen; omega, fun _ => rfl, .inl rfl⟩

/-- The Reader at g behind a call: its state is s. -/
def ReadsTo (w : World) (g : Nat) (v : Value) (s : Rd) (w' : World) : Prop :=
  ∃ v', IsR w' g v' s.rest s.fault ∧ (∀ k, v'.ownBlock = some k → v.ownBlock = some k) ∧ Kept w w' (· = g)

theorem ReadsTo.stay {w : World} {g : Nat} {v : Value} {xs : List Int} {f n : Int} (h : IsR w g v xs f) : ReadsTo w g v ⟨n, xs, f⟩ w := ⟨v, h, fun _ h => h, Kept.refl _ _⟩
theorem ReadsTo.fail {w : World} {g : Nat} {v : Value} {xs : List Int} {f n : Int} (h : IsR w g v xs f) (e : Int) : ReadsTo w g v ⟨n, xs, e⟩ (w.setCell ⟨g, 2, none⟩ (.int .i64 e)) :=
  ⟨v, h.fail e, fun _ h => h, (Kept.refl w _).setCell _ _ (fun _ => rfl)⟩
theorem ReadsTo.skip {w : World} {g : Nat} {v : Value} {xs : List Int} {f x : Int} {n : Nat} (h : IsR w g v xs f) (hn : n ≤ xs.length) : ReadsTo w g v ⟨x, xs.drop n, f⟩ (w.setCell ⟨g, 1, none⟩ (cutFrom v n)) := by
  refine ⟨_, h.skip hn, fun k hk => ?_, (Kept.refl w _).setCell _ _ (fun _ => rfl)⟩
  obtain ⟨ao, cap, rfl, _⟩ := h.2
  exact cutFrom_block hk

set_option maxHeartbeats 400000 in
theorem rNumber_any (g : Nat) (v : Value) (xs : List Int) (f : Int) (n : Nat) (w : World) (h : IsR w g v xs f) (hb : Byts xs) (h8 : n ≤ 8) :
    Calls Tryz.prog 123 #[.pointer (some ⟨g, 0, none⟩), .int .i64 n] w fun e w' => e = .returned (.int .u64 (rdNum n xs f).out) ∧ ReadsTo w g v (rdNum n xs f) w' := by
  have H : Hid (IsR w g v xs f ∧ Byts xs) := ⟨h, hb⟩
  clear h hb
  by_cases hf : f = 0
  · by_cases hl : xs.length < n
    · have e1 : rdNum n xs f = ⟨0, xs, 10⟩ := by simp [rdNum, hf, hl]
      rw [e1]
      clear e1
      subst hf
      go_enter Tryz.func123, Tryz.ntmps123
      go_wp2_with fail
      refine (rTake_short g v xs n _ H.out.1 hl).mono ?_
      rintro e w1 ⟨rfl, rfl⟩
      go_wp2_with fail
      refine (join_any _ [] _ (sees_nil _) (by intro x hx; simp at hx) (by simp)).mono ?_
      rintro e w2 ⟨rfl, rfl⟩
      go_wp2
      go_ret
      exact ⟨rfl, ReadsTo.fail H.out.1 10⟩
    · have e1 : rdNum n xs f = ⟨num (xs.take n), xs.drop n, 0⟩ := by simp [rdNum, hf, hl]
      rw [e1]
      clear e1
      subst hf
      go_enter Tryz.func123, Tryz.ntmps123
      go_wp2_with fail
      refine (rTake_ok g v xs n _ H.out.1 (by omega)).mono ?_
      rintro e w1 ⟨ao, rfl, hs, hv, rfl⟩
      have HS : Hid (Sees w (.slice ao n n) (xs.take n) ∧ ∃ l c, v = .slice ao l c) := ⟨hs, hv⟩
      clear hs hv
      go_wp2_with fail
      refine (join_any _ (xs.take n) _ (HS.out.1.set _ _ (fun hx => ?_)) (H.out.2.take n) (by simp; omega)).mono ?_
      · obtain ⟨l, c, e⟩ := HS.out.2
        have := H.out.1.apart (fun e2 => hx (by rw [e2]; simp))
        rw [e] at this
        cases ao with
        | none => simp [Value.ownBlock]
        | some a => simpa [Value.ownBlock] using this
      rintro e w2 ⟨rfl, rfl⟩
      go_wp2
      go_ret
      exact ⟨rfl, ReadsTo.skip H.out.1 (by omega)⟩
  · have e1 : rdNum n xs f = ⟨0, xs, f⟩ := by simp [rdNum, hf]
    rw [e1]
    clear e1
    have HF : Hid (f ≠ 0) := hf
    clear hf
    go_enter Tryz.func123, Tryz.ntmps123
    go_wp2_with fail
    refine (rTake_fault g v xs n f _ H.out.1 HF.out).mono ?_
    rintro e w1 ⟨rfl, rfl⟩
    go_wp2_with fail
    refine (join_any _ [] _ (sees_nil _) (by intro x hx; simp at hx) (by simp)).mono ?_
    rintro e w2 ⟨rfl, rfl⟩
    go_wp2
    go_ret
    exact ⟨rfl, ReadsTo.stay H.out.1⟩

/-- A number of 32 bits as an int32. -/
def down32 (n : Int) : Int := wrap32 n
theorem down32_is (n : Int) (h0 : 0 ≤ n) (h1 : n < 4294967296) : down32 n = if n ≤ 2147483647 then n else n - 4294967296 := by
  unfold down32 wrap32; split <;> omega

theorem rdNum_bd (n : Nat) (xs : List Int) (f : Int) (hb : Byts xs) : 0 ≤ (rdNum n xs f).out ∧ (rdNum n xs f).out < 256 ^ n := by
  have h0 : (0 : Int) < 256 ^ n := Int.pow_pos (by decide)
  unfold rdNum
  by_cases hf : f ≠ 0
  · rw [if_pos hf]; exact ⟨Int.le_refl _, h0⟩
  · rw [if_neg hf]
    by_cases hl : xs.length < n
    · rw [if_pos hl]; exact ⟨Int.le_refl _, h0⟩
    · rw [if_neg hl]; exact num_bd xs hb n (by omega)

set_option maxHeartbeats 400000 in
theorem rInt32_any (g : Nat) (v : Value) (xs : List Int) (f : Int) (w : World) (h : IsR w g v xs f) (hb : Byts xs) :
    Calls Tryz.prog 129 #[.pointer (some ⟨g, 0, none⟩)] w fun e w' => e = .returned (.int .i32 (down32 (rdNum 4 xs f).out)) ∧ ReadsTo w g v (rdNum 4 xs f) w' := by
  have H : Hid (IsR w g v xs f ∧ Byts xs) := ⟨h, hb⟩
  clear h hb
  go_enter Tryz.func129, Tryz.ntmps129
  go_wp2_with fail
  refine (rNumber_any g v xs f 4 _ H.out.1 H.out.2 (by omega)).mono ?_
  rintro e w1 ⟨rfl, hr⟩
  have HR : Hid (ReadsTo w g v (rdNum 4 xs f) w1) := hr
  clear hr
  go_wp2
  go_ret
  exact ⟨rfl, HR.out⟩

/-- New: a Reader over a copy of the bytes. -/
theorem new_any (u : Value) (ys : List Int) (w : World) (hu : Sees w u ys) (hl : ys.length ≤ 140737488355328) :
    Calls Tryz.prog 59 #[u] w fun e w' => ∃ g v, e = .returned (.pointer (some ⟨g, 0, none⟩)) ∧ IsR w' g v ys 0 ∧ w.heap.size ≤ g ∧ Owns w' w.heap.size v ys ∧ Below w.heap.size w w' := by
  have H : Hid (Sees w u ys) := hu
  clear hu
  go_enter Tryz.func59, Tryz.ntmps59
  go_wp2_with fail
  refine (clone_any u ys _ H.out hl).mono ?_
  rintro e w1 ⟨v, rfl, hp⟩
  have HP : Hid (Owns w1 w.heap.size v ys ∧ Below w.heap.size w w1) := hp
  obtain ⟨ao', n', c', hv'⟩ := owns_shape hp.1
  clear hp
  subst hv'
  go_wp2
  go_ret
  exact ⟨w1.heap.size, _, rfl, ⟨heap_alloc_new _ _, Sees.own (HP.out.1.alloc _)⟩, HP.out.2.size, HP.out.1.alloc _, HP.out.2.alloc HP.out.2.size _⟩

end Go.Proofs.YtoeialngbbfoeaaGreatDoor

/- What the Reader's size does: it looks at a length, or at a count, and stays ahead of it; the fault where it may not be. -/
namespace Go.Proofs.YtoeialngbbfoeaaGreatDoor
open Go.RowKit
set_option maxRecDepth 8000

/-- The count that stands ahead: the first four bytes as an int32. -/
def ahead (xs : List Int) : Int := wrap32 (num (xs.take 4))

theorem wrap32_bd (n : Int) : -2147483648 ≤ wrap32 n ∧ wrap32 n ≤ 2147483647 := by unfold wrap32; omega

section
variable (g : Nat) (v : Value) (xs : List Int) (most : Int) (w : World)

set_option maxHeartbeats 400000 in
theorem rSize_fault (f : Int) (h : IsR w g v xs f) (hf : f ≠ 0) :
    Calls Tryz.prog 149 #[.pointer (some ⟨g, 0, none⟩), .int .i64 most] w fun e w' => e = .returned (.tuple #[.int .i64 0, .bool false]) ∧ w' = w := by
  have H : Hid (IsR w g v xs f ∧ f ≠ 0) := ⟨h, hf⟩
  clear h hf
  go_enter Tryz.func149, Tryz.ntmps149
  go_wp2_with fail
  refine (rPeek_fault g v xs 4 f _ H.out.1 H.out.2).mono ?_
  rintro e w1 ⟨rfl, rfl⟩
  go_wp2
  go_ret2
  exact ⟨rfl, rfl⟩

set_option maxHeartbeats 400000 in
theorem rSize_short (h : IsR w g v xs 0) (hl : xs.length < 4) :
    Calls Tryz.prog 149 #[.pointer (some ⟨g, 0, none⟩), .int .i64 most] w fun e w' => e = .returned (.tuple #[.int .i64 0, .bool false]) ∧ w' = w.setCell ⟨g, 2, none⟩ (.int .i64 10) := by
  have H : Hid (IsR w g v xs 0) := h
  clear h
  go_enter Tryz.func149, Tryz.ntmps149
  go_wp2_with fail
  refine (rPeek_short g v xs 4 _ H.out hl).mono ?_
  rintro e w1 ⟨rfl, rfl⟩
  go_wp2
  go_ret2
  exact ⟨rfl, rfl⟩

set_option maxHeartbeats 400000 in
theorem rSize_wide (h : IsR w g v xs 0) (hb : Byts xs) (hl : 4 ≤ xs.length) (hn : ahead xs < 0 ∨ most < ahead xs) :
    Calls Tryz.prog 149 #[.pointer (some ⟨g, 0, none⟩), .int .i64 most] w fun e w' => e = .returned (.tuple #[.int .i64 0, .bool false]) ∧ w' = w.setCell ⟨g, 2, none⟩ (.int .i64 11) := by
  have H : Hid (IsR w g v xs 0 ∧ Byts xs) := ⟨h, hb⟩
  have h2 := h.c2
  have h3 := h.fr 2
  clear h hb
  unfold ahead at hn
  have hw1 := (wrap32_bd (num (xs.take 4))).1
  have hw2 := (wrap32_bd (num (xs.take 4))).2
  rcases hn with hn | hn
  · have b1 : decide (wrap32 (num (xs.take 4)) < 0) = true := by simp; omega
    go_enter Tryz.func149, Tryz.ntmps149
    go_wp2_with fail
    refine (rPeek_ok g v xs 4 _ H.out.1 hl).mono ?_
    rintro e w1 ⟨ao, rfl, hs, _, rfl⟩
    have HS : Hid (Sees w1 (.slice ao 4 4) (xs.take 4)) := hs
    clear hs
    go_wp2_with fail
    refine (join_any _ (xs.take 4) _ HS.out (H.out.2.take 4) (by simp; omega)).mono ?_
    rintro e w2 ⟨rfl, rfl⟩
    go_wp2
    go_ret2
    exact ⟨rfl, rfl⟩
  · by_cases hm : wrap32 (num (xs.take 4)) < 0
    · have b1 : decide (wrap32 (num (xs.take 4)) < 0) = true := by simp; omega
      go_enter Tryz.func149, Tryz.ntmps149
      go_wp2_with fail
      refine (rPeek_ok g v xs 4 _ H.out.1 hl).mono ?_
      rintro e w1 ⟨ao, rfl, hs, _, rfl⟩
      have HS : Hid (Sees w1 (.slice ao 4 4) (xs.take 4)) := hs
      clear hs
      go_wp2_with fail
      refine (join_any _ (xs.take 4) _ HS.out (H.out.2.take 4) (by simp; omega)).mono ?_
      rintro e w2 ⟨rfl, rfl⟩
      go_wp2
      go_ret2
      exact ⟨rfl, rfl⟩
    · have b1 : decide (wrap32 (num (xs.take 4)) < 0) = false := by simp; omega
      have b2 : decide (most < wrap32 (num (xs.take 4))) = true := by simp; omega
      go_enter Tryz.func149, Tryz.ntmps149
      go_wp2_with fail
      refine (rPeek_ok g v xs 4 _ H.out.1 hl).mono ?_
      rintro e w1 ⟨ao, rfl, hs, _, rfl⟩
      have HS : Hid (Sees w1 (.slice ao 4 4) (xs.take 4)) := hs
      clear hs
      go_wp2_with fail
      refine (join_any _ (xs.take 4) _ HS.out (H.out.2.take 4) (by simp; omega)).mono ?_
      rintro e w2 ⟨rfl, rfl⟩
      go_wp2
      go_ret2
      exact ⟨rfl, rfl⟩

set_option maxHeartbeats 400000 in
theorem rSize_over (h : IsR w g v xs 0) (hb : Byts xs) (hl : 4 ≤ xs.length) (hn : 0 ≤ ahead xs) (hm : ahead xs ≤ most) (ho : (xs.length : Int) - 4 < ahead xs) :
    Calls Tryz.prog 149 #[.pointer (some ⟨g, 0, none⟩), .int .i64 most] w fun e w' => e = .returned (.tuple #[.int .i64 0, .bool false]) ∧ w' = w.setCell ⟨g, 2, none⟩ (.int .i64 10) := by
  have H : Hid (IsR w g v xs 0 ∧ Byts xs) := ⟨h, hb⟩
  have h1 := h.c1
  have h2 := h.c2
  have h3 := h.fr 2
  obtain ⟨av, cv, rfl, q1, q2, _, _⟩ := h.2
  unfold maxLen at q2
  clear h hb
  unfold ahead at hn hm ho
  have hw1 := (wrap32_bd (num (xs.take 4))).1
  have hw2 := (wrap32_bd (num (xs.take 4))).2
  have b1 : decide (wrap32 (num (xs.take 4)) < 0) = false := by simp; omega
  have b2 : decide (most < wrap32 (num (xs.take 4))) = false := by simp; omega
  go_enter Tryz.func149, Tryz.ntmps149
  go_wp2_with fail
  refine (rPeek_ok g _ xs 4 _ H.out.1 hl).mono ?_
  rintro e w1 ⟨ao, rfl, hs, _, rfl⟩
  have HS : Hid (Sees w1 (.slice ao 4 4) (xs.take 4)) := hs
  clear hs
  go_wp2_with fail
  refine (join_any _ (xs.take 4) _ HS.out (H.out.2.take 4) (by simp; omega)).mono ?_
  rintro e w2 ⟨rfl, rfl⟩
  go_wp2
  go_ret2
  exact ⟨rfl, rfl⟩

set_option maxHeartbeats 400000 in
theorem rSize_ok (h : IsR w g v xs 0) (hb : Byts xs) (hl : 4 ≤ xs.length) (hn : 0 ≤ ahead xs) (hm : ahead xs ≤ most) (ho : ahead xs ≤ (xs.length : Int) - 4) :
    Calls Tryz.prog 149 #[.pointer (some ⟨g, 0, none⟩), .int .i64 most] w fun e w' => e = .returned (.tuple #[.int .i64 (ahead xs), .bool true]) ∧ w' = w := by
  have H : Hid (IsR w g v xs 0 ∧ Byts xs) := ⟨h, hb⟩
  have h1 := h.c1
  obtain ⟨av, cv, rfl, q1, q2, _, _⟩ := h.2
  unfold maxLen at q2
  clear h hb
  unfold ahead at hn hm ho ⊢
  have hw1 := (wrap32_bd (num (xs.take 4))).1
  have hw2 := (wrap32_bd (num (xs.take 4))).2
  have b1 : decide (wrap32 (num (xs.take 4)) < 0) = false := by simp; omega
  have b2 : decide (most < wrap32 (num (xs.take 4))) = false := by simp; omega
  go_enter Tryz.func149, Tryz.ntmps149
  go_wp2_with fail
  refine (rPeek_ok g _ xs 4 _ H.out.1 hl).mono ?_
  rintro e w1 ⟨ao, rfl, hs, _, rfl⟩
  have HS : Hid (Sees w1 (.slice ao 4 4) (xs.take 4)) := hs
  clear hs
  go_wp2_with fail
  refine (join_any _ (xs.take 4) _ HS.out (H.out.2.take 4) (by simp; omega)).mono ?_
  rintro e w2 ⟨rfl, rfl⟩
  go_wp2
  go_ret2
  exact ⟨rfl, rfl⟩
end

end Go.Proofs.YtoeialngbbfoeaaGreatDoor

/- Plain facts on IEEE 754 doubles as words: what a word with sign, exponent and fraction stands for, and that doubling, halving, comparing and taking 1 away are exact where the document's own Bits does them; no Go function is walked here. -/
namespace Go.Proofs.YtoeialngbbfoeaaGreatDoor
open Ieee
set_option maxRecDepth 8000

end Go.Proofs.YtoeialngbbfoeaaGreatDoor

/- More plain facts on IEEE 754 doubles: what stands behind the point taken back as a whole number; 1 taken away. -/
namespace Go.Proofs.YtoeialngbbfoeaaGreatDoor
open Ieee
set_option maxRecDepth 8000

end Go.Proofs.YtoeialngbbfoeaaGreatDoor

/- A float's bits with one form for what is not a number; what is a number is like itself. -/
namespace Go.Proofs.YtoeialngbbfoeaaGreatDoor
open Ieee
set_option maxRecDepth 8000

end Go.Proofs.YtoeialngbbfoeaaGreatDoor

/- What the rest of the Reader's calls do: Bool, Int8, Uint32, Int64, Float, Buffer, Raw, Fail and End. -/
namespace Go.Proofs.YtoeialngbbfoeaaGreatDoor
open Go.RowKit
set_option maxRecDepth 8000

section
variable (g : Nat) (v : Value) (xs : List Int) (f : Int) (w : World)

set_option maxHeartbeats 400000 in
theorem rUint32_any (h : IsR w g v xs f) (hb : Byts xs) :
    Calls Tryz.prog 60 #[.pointer (some ⟨g, 0, none⟩)] w fun e w' => e = .returned (.int .u32 (rdNum 4 xs f).out) ∧ ReadsTo w g v (rdNum 4 xs f) w' := by
  have hbd := rdNum_bd 4 xs f hb
  have h4 : (256 : Int) ^ 4 = 4294967296 := by decide
  rw [h4] at hbd
  have b1 := hbd.1
  have b2 := hbd.2
  have H : Hid (IsR w g v xs f ∧ Byts xs) := ⟨h, hb⟩
  clear h hb h4 hbd
  go_enter Tryz.func60, Tryz.ntmps60
  go_wp2_with fail
  refine (rNumber_any g v xs f 4 _ H.out.1 H.out.2 (by omega)).mono ?_
  rintro e w1 ⟨rfl, hr⟩
  have HR : Hid (ReadsTo w g v (rdNum 4 xs f) w1) := hr
  clear hr
  go_wp2
  go_ret
  exact ⟨rfl, HR.out⟩

set_option maxHeartbeats 400000 in
theorem rInt64_any (h : IsR w g v xs f) (hb : Byts xs) :
    Calls Tryz.prog 62 #[.pointer (some ⟨g, 0, none⟩)] w fun e w' => e = .returned (.int .i64 (wrap64 (rdNum 8 xs f).out)) ∧ ReadsTo w g v (rdNum 8 xs f) w' := by
  have H : Hid (IsR w g v xs f ∧ Byts xs) := ⟨h, hb⟩
  clear h hb
  go_enter Tryz.func62, Tryz.ntmps62
  go_wp2_with fail
  refine (rNumber_any g v xs f 8 _ H.out.1 H.out.2 (by omega)).mono ?_
  rintro e w1 ⟨rfl, hr⟩
  have HR : Hid (ReadsTo w g v (rdNum 8 xs f) w1) := hr
  clear hr
  go_wp2
  go_ret
  exact ⟨rfl, HR.out⟩

set_option maxHeartbeats 400000 in
theorem rInt8_any (h : IsR w g v xs f) (hb : Byts xs) :
    Calls Tryz.prog 61 #[.pointer (some ⟨g, 0, none⟩)] w fun e w' => e = .returned (.int .i8 (IntKind.i8.wrap (rdNum 1 xs f).out)) ∧ ReadsTo w g v (rdNum 1 xs f) w' := by
  have H : Hid (IsR w g v xs f ∧ Byts xs) := ⟨h, hb⟩
  clear h hb
  go_enter Tryz.func61, Tryz.ntmps61
  go_wp2_with fail
  refine (rNumber_any g v xs f 1 _ H.out.1 H.out.2 (by omega)).mono ?_
  rintro e w1 ⟨rfl, hr⟩
  have HR : Hid (ReadsTo w g v (rdNum 1 xs f) w1) := hr
  clear hr
  go_wp2
  go_ret
  exact ⟨rfl, HR.out⟩

theorem rEnd_any (h : IsR w g v xs f) :
    Calls Tryz.prog 64 #[.pointer (some ⟨g, 0, none⟩)] w fun e w' => e = .returned (.int .i64 (if f ≠ 0 then f else if xs = [] then 0 else 13)) ∧ w' = w := by
  have h1 := h.c1
  have H : Hid (IsR w g v xs f) := h
  obtain ⟨ao, cap, rfl, q1, q2, _, _⟩ := h.2
  unfold maxLen at q2
  clear h
  by_cases hf : f = 0
  · subst hf
    rw [if_neg (by simp)]
    by_cases hx : xs = []
    · rw [if_pos hx]
      have hl : xs.length = 0 := by rw [hx]; rfl
      clear hx
      have hl' : ¬ (0 : Int) < (xs.length : Int) := by omega
      have HL : Hid (xs.length = 0) := hl
      clear hl
      go_enter Tryz.func64, Tryz.ntmps64
      go_wp2_with fail
      refine (rErr_any g _ xs 0 _ H.out).mono ?_
      rintro e w1 ⟨rfl, rfl⟩
      go_wp2
      go_ret
      exact ⟨rfl, rfl⟩
    · rw [if_neg hx]
      have hl : 0 < xs.length := List.length_pos_iff.2 hx
      clear hx
      go_enter Tryz.func64, Tryz.ntmps64
      go_wp2_with fail
      refine (rErr_any g _ xs 0 _ H.out).mono ?_
      rintro e w1 ⟨rfl, rfl⟩
      go_wp2
      go_ret
      exact ⟨rfl, rfl⟩
  · rw [if_pos hf]
    have hf' : (f != 0) = true := by simp [hf]
    clear hf
    go_enter Tryz.func64, Tryz.ntmps64
    go_wp2_with fail
    refine (rErr_any g _ xs f _ H.out).mono ?_
    rintro e w1 ⟨rfl, rfl⟩
    go_wp2
    go_ret
    exact ⟨rfl, rfl⟩

/-- Raw bytes, a buffer: by the document: what is answered, what is left, the fault. -/
def rdRaw (n : Int) (xs : List Int) (f : Int) : List Int × Rd :=
  if f ≠ 0 then ([], ⟨0, xs, f⟩) else if n < 0 then ([], ⟨0, xs, 11⟩) else if (xs.length : Int) < n then ([], ⟨0, xs, 10⟩) else (xs.take n.toNat, ⟨0, xs.drop n.toNat, 0⟩)

/-- A slice that a Reader answers: it leads to the bytes; it has no spare room; it lies in the Reader's own row, or nowhere. -/
def Cut (w : World) (v u : Value) (ys : List Int) : Prop := Sees w u ys ∧ (∃ ao, u = .slice ao ys.length ys.length) ∧ ∀ k, u.ownBlock = some k → v.ownBlock = some k

theorem cut_nil (w : World) (v : Value) : Cut w v (.slice none 0 0) [] := ⟨sees_nil w, ⟨none, rfl⟩, fun k hk => by simp [Value.ownBlock] at hk⟩

set_option maxHeartbeats 400000 in
theorem rTake_any (n : Int) (h : IsR w g v xs f) :
    Calls Tryz.prog 145 #[.pointer (some ⟨g, 0, none⟩), .int .i64 n] w fun e w' => ∃ u, e = .returned u ∧ Cut w' v u (rdRaw n xs f).1 ∧ ReadsTo w g v (rdRaw n xs f).2 w' := by
  by_cases hf : f = 0
  · subst hf
    by_cases hn : n < 0
    · have e1 : rdRaw n xs 0 = ([], ⟨0, xs, 11⟩) := by unfold rdRaw; rw [if_neg (by simp), if_pos hn]
      rw [e1]
      refine (rTake_neg g v xs n w h hn).mono ?_
      rintro e w1 ⟨rfl, rfl⟩
      exact ⟨_, rfl, cut_nil _ _, ReadsTo.fail h 11⟩
    · obtain ⟨k, rfl⟩ := Int.eq_ofNat_of_zero_le (show 0 ≤ n by omega)
      by_cases hl : (xs.length : Int) < k
      · have e1 : rdRaw k xs 0 = ([], ⟨0, xs, 10⟩) := by unfold rdRaw; rw [if_neg (by simp), if_neg hn, if_pos hl]
        rw [e1]
        refine (rTake_short g v xs k w h (by omega)).mono ?_
        rintro e w1 ⟨rfl, rfl⟩
        exact ⟨_, rfl, cut_nil _ _, ReadsTo.fail h 10⟩
      · have e1 : rdRaw k xs 0 = (xs.take k, ⟨0, xs.drop k, 0⟩) := by unfold rdRaw; rw [if_neg (by simp), if_neg hn, if_neg hl, Int.toNat_natCast]
        rw [e1]
        refine (rTake_ok g v xs k w h (by omega)).mono ?_
        rintro e w1 ⟨ao, rfl, hs, ⟨l, c, hv⟩, rfl⟩
        have hlen : (xs.take k).length = k := by simp; omega
        refine ⟨_, rfl, ⟨hs.set _ _ (fun hx e => ?_), ⟨ao, by rw [hlen]⟩, fun j hj => ?_⟩, ReadsTo.skip h (by omega)⟩
        · have := h.apart (fun e2 => hx (by rw [e2]; simp))
          rw [hv] at this
          cases ao with
          | none => simp [Value.ownBlock] at e
          | some a => exact this (by simpa [Value.ownBlock] using e)
        · rw [hv]
          cases ao with
          | none => simp [Value.ownBlock] at hj
          | some a => simpa [Value.ownBlock] using hj
  · have e1 : rdRaw n xs f = ([], ⟨0, xs, f⟩) := by unfold rdRaw; rw [if_pos hf]
    rw [e1]
    refine (rTake_fault g v xs n f w h hf).mono ?_
    rintro e w1 ⟨rfl, rfl⟩
    exact ⟨_, rfl, cut_nil _ _, ReadsTo.stay h⟩

/-- A buffer, a text: by the document. -/
def rdBuf (most : Int) (xs : List Int) (f : Int) : List Int × Rd :=
  if f ≠ 0 then ([], ⟨0, xs, f⟩) else if xs.length < 4 then ([], ⟨0, xs, 10⟩) else if ahead xs < 0 ∨ most < ahead xs then ([], ⟨0, xs, 11⟩)
  else if (xs.length : Int) - 4 < ahead xs then ([], ⟨0, xs, 10⟩) else ((xs.drop 4).take (ahead xs).toNat, ⟨0, (xs.drop 4).drop (ahead xs).toNat, 0⟩)

set_option maxHeartbeats 400000 in
theorem rSized_any (most : Int) (h : IsR w g v xs f) (hb : Byts xs) :
    Calls Tryz.prog 147 #[.pointer (some ⟨g, 0, none⟩), .int .i64 most] w fun e w' => ∃ u, e = .returned u ∧ Cut w' v u (rdBuf most xs f).1 ∧ ReadsTo w g v (rdBuf most xs f).2 w' := by
  have H : Hid (IsR w g v xs f ∧ Byts xs) := ⟨h, hb⟩
  clear h hb
  by_cases hf : f = 0
  · subst hf
    by_cases hl : xs.length < 4
    · have e1 : rdBuf most xs 0 = ([], ⟨0, xs, 10⟩) := by unfold rdBuf; rw [if_neg (by simp), if_pos hl]
      rw [e1]
      clear e1
      go_enter Tryz.func147, Tryz.ntmps147
      go_wp2_with fail
      refine (rSize_short g v xs most _ H.out.1 hl).mono ?_
      rintro e w1 ⟨rfl, rfl⟩
      go_wp2
      go_ret
      exact ⟨_, rfl, cut_nil _ _, ReadsTo.fail H.out.1 10⟩
    · by_cases hw : ahead xs < 0 ∨ most < ahead xs
      · have e1 : rdBuf most xs 0 = ([], ⟨0, xs, 11⟩) := by unfold rdBuf; rw [if_neg (by simp), if_neg hl, if_pos hw]
        rw [e1]
        have HW : Hid _ := hw
        clear e1 hw
        go_enter Tryz.func147, Tryz.ntmps147
        go_wp2_with fail
        refine (rSize_wide g v xs most _ H.out.1 H.out.2 (by omega) HW.out).mono ?_
        rintro e w1 ⟨rfl, rfl⟩
        go_wp2
        go_ret
        exact ⟨_, rfl, cut_nil _ _, ReadsTo.fail H.out.1 11⟩
      · have hn : 0 ≤ ahead xs := by omega
        have hm : ahead xs ≤ most := by omega
        by_cases ho : (xs.length : Int) - 4 < ahead xs
        · have e1 : rdBuf most xs 0 = ([], ⟨0, xs, 10⟩) := by unfold rdBuf; rw [if_neg (by simp), if_neg hl, if_neg hw, if_pos ho]
          rw [e1]
          clear e1 hw
          go_enter Tryz.func147, Tryz.ntmps147
          go_wp2_with fail
          refine (rSize_over g v xs most _ H.out.1 H.out.2 (by omega) hn hm ho).mono ?_
          rintro e w1 ⟨rfl, rfl⟩
          go_wp2
          go_ret
          exact ⟨_, rfl, cut_nil _ _, ReadsTo.fail H.out.1 10⟩
        · have e1 : rdBuf most xs 0 = ((xs.drop 4).take (ahead xs).toNat, ⟨0, (xs.drop 4).drop (ahead xs).toNat, 0⟩) := by unfold rdBuf; rw [if_neg (by simp), if_neg hl, if_neg hw, if_neg ho]
          rw [e1]
          clear e1 hw
          go_enter Tryz.func147, Tryz.ntmps147
          go_wp2_with fail
          refine (rSize_ok g v xs most _ H.out.1 H.out.2 (by omega) hn hm (by omega)).mono ?_
          rintro e w1 ⟨rfl, rfl⟩
          go_wp2_with fail
          refine (rSkip_ok g v xs 4 0 _ H.out.1 (by omega)).mono ?_
          rintro e w2 ⟨rfl, hw2⟩
          have HR : Hid (IsR w2 g (cutFrom v 4) (xs.drop 4) 0 ∧ Kept w1 w2 (· = g) ∧ ∀ k, (cutFrom v 4).ownBlock = some k → v.ownBlock = some k) := by
            rw [hw2]
            refine ⟨H.out.1.skip (by omega), (Kept.refl w1 _).setCell _ _ (fun _ => rfl), fun k hk => ?_⟩
            obtain ⟨ao, cap, rfl, _⟩ := H.out.1.2
            exact cutFrom_block hk
          have e2 : rdRaw (ahead xs) (xs.drop 4) 0 = ((xs.drop 4).take (ahead xs).toNat, ⟨0, (xs.drop 4).drop (ahead xs).toNat, 0⟩) := by
            unfold rdRaw
            rw [if_neg (by simp), if_neg (by omega), if_neg (by rw [List.length_drop]; omega)]
          have HE2 : Hid _ := e2
          clear hw2 e2
          go_wp2_with fail
          refine (rTake_any g _ (xs.drop 4) 0 _ (ahead xs) HR.out.1).mono ?_
          rintro e w3 ⟨u, rfl, hc, ht⟩
          rw [HE2.out] at hc ht
          have HC : Hid (Cut w3 v u ((xs.drop 4).take (ahead xs).toNat) ∧ ReadsTo w1 g v ⟨0, (xs.drop 4).drop (ahead xs).toNat, 0⟩ w3) := by
            refine ⟨⟨hc.1, hc.2.1, fun k hk => HR.out.2.2 k (hc.2.2 k hk)⟩, ?_⟩
            obtain ⟨v', t1, t2, t3⟩ := ht
            exact ⟨v', t1, fun k hk => HR.out.2.2 k (t2 k hk), HR.out.2.1.trans t3 (fun _ _ h => h)⟩
          clear hc ht
          go_wp2
          go_ret
          exact ⟨_, rfl, HC.out⟩
  · have e1 : rdBuf most xs f = ([], ⟨0, xs, f⟩) := by unfold rdBuf; rw [if_pos hf]
    rw [e1]
    have HF : Hid (f ≠ 0) := hf
    clear e1 hf
    go_enter Tryz.func147, Tryz.ntmps147
    go_wp2_with fail
    refine (rSize_fault g v xs most _ f H.out.1 HF.out).mono ?_
    rintro e w1 ⟨rfl, rfl⟩
    go_wp2
    go_ret
    exact ⟨_, rfl, cut_nil _ _, ReadsTo.stay H.out.1⟩
end
end Go.Proofs.YtoeialngbbfoeaaGreatDoor

/- What the Reader's Float, Buffer and Text do. -/
namespace Go.Proofs.YtoeialngbbfoeaaGreatDoor
open Go.RowKit
set_option maxRecDepth 8000

section
variable (g : Nat) (v : Value) (xs : List Int) (f : Int) (w : World)

theorem run_text (w : World) (u : Value) (ys : List Int) (h : Sees w u ys) : (convert 28 9 u).run Tryz.prog w = .ok (.string (strOfNums ys)) w := by
  obtain ⟨ao, cap, rfl, _, _, _, h3⟩ := h
  rcases h3 with rfl | ⟨b, off, rfl, h3⟩
  · cases ao with
    | none => exact run_convert_bytes_nil w 28 5 Tryz.underlying28 Tryz.underlying5 _ _ _ Tryz.underlying9
    | some a =>
      rw [run_convert_bytes_string w 28 9 5 _ _ _ Tryz.underlying28 Tryz.underlying5 Tryz.underlying9]
      have hl : (loadCells a 0).run Tryz.prog w = .ok #[] w := by simp [loadCells, loadCellsFrom]
      simp [Conv.bytesToString, strOfNums, hl]
      rfl
  · exact run_convert_bytes_arg w 28 5 Tryz.underlying28 Tryz.underlying5 b off ys.length cap ys rfl h3 _ Tryz.underlying9

set_option maxHeartbeats 400000 in
theorem rText_any (most : Int) (h : IsR w g v xs f) (hb : Byts xs) :
    Calls Tryz.prog 125 #[.pointer (some ⟨g, 0, none⟩), .int .i64 most] w fun e w' => e = .returned (.string (strOfNums (rdBuf most xs f).1)) ∧ ReadsTo w g v (rdBuf most xs f).2 w' := by
  have H : Hid (IsR w g v xs f ∧ Byts xs) := ⟨h, hb⟩
  clear h hb
  go_enter Tryz.func125, Tryz.ntmps125
  go_wp2_with fail
  refine (rSized_any g v xs f _ most H.out.1 H.out.2).mono ?_
  rintro e w1 ⟨u, rfl, hc, ht⟩
  have hcv := run_text w1 u _ hc.1
  have HC : Hid (ReadsTo w g v (rdBuf most xs f).2 w1) := ht
  clear hc ht
  go_wp2
  go_ret
  exact ⟨rfl, HC.out⟩
end
end Go.Proofs.YtoeialngbbfoeaaGreatDoor

/- bytes.Equal, slices.Equal at ids and at entries, at the same data: true. -/
namespace Go.Proofs.YtoeialngbbfoeaaGreatDoor
open Go.RowKit
set_option maxRecDepth 8000

theorem bytesEqual_same (v u : Value) (xs : List Int) (w : World) (h : Sees w v xs) (g : Sees w u xs) :
    Calls Tryz.prog 70 #[v, u] w fun e w' => e = .returned (.bool true) ∧ w' = w := by
  have h1 := run_text w v xs h
  have h2 := run_text w u xs g
  obtain ⟨ao, cap, rfl, _⟩ := h
  obtain ⟨bo, cbp, rfl, _⟩ := g
  go_enter Tryz.func70, Tryz.ntmps70
  go_wp2
  go_ret
  exact ⟨by simp, rfl⟩

set_option maxHeartbeats 400000 in
theorem slEqId_same (v u : Value) (l : List IdD) (w : World) (h : SeesR w v 2 (l.map IdD.cells)) (g : SeesR w u 2 (l.map IdD.cells)) :
    Calls Tryz.prog 72 #[v, u] w fun e w' => e = .returned (.bool true) ∧ ∃ n, w' = w.drewN n := by
  obtain ⟨ao, cap, rfl, hlc, hcm, _, h3⟩ := h
  obtain ⟨bo, cbp, rfl, glc, gcm, _, g3⟩ := g
  unfold maxLen at hcm gcm
  have hg : Tryz.prog.eqGuardType Tryz.prog.depth 103 = false := by kernel_rfl
  rw [List.length_map] at hlc glc ⊢
  go_enter Tryz.func72, Tryz.ntmps72
  go_wp2
  go_loopw [13] (fun i wr => ∃ k m : Nat, k ≤ l.length ∧ i = .int .i64 k ∧ wr = w.drewN m) (fun i _ => l.length - (intOf i).toNat)
  case atStart => exact ⟨0, 0, Nat.zero_le _, rfl, rfl⟩
  case round =>
    obtain ⟨k, m, hk, rfl, rfl⟩ := hrel
    by_cases hlt : k < l.length
    · rcases h3 with h3 | ⟨b, off, rfl, h3⟩
      · have : l.length = 0 := by simpa using congrArg List.length h3
        omega
      · rcases g3 with g3 | ⟨b', off', rfl, g3⟩
        · have : l.length = 0 := by simpa using congrArg List.length g3
          omega
        · have c0 := h3 k (by simpa using hlt) 0 (by omega)
          have c1 := h3 k (by simpa using hlt) 1 (by omega)
          have e0 := g3 k (by simpa using hlt) 0 (by omega)
          have e1 := g3 k (by simpa using hlt) 1 (by omega)
          simp [IdD.cells] at c0 c1 e0 e1
          clear h3 g3
          generalize l[k] = x at *
          have hq := neqId x.scheme x.name
          go_wp2
          go_quiet (fail)
          go_wp2
          go_roundw
          case rel => exact ⟨k + 1, _, by omega, by go_num, rfl⟩
          case measure => simp [intOf]; omega
    · obtain rfl : k = l.length := by omega
      go_wp2
      go_ret
      exact ⟨rfl, m, rfl⟩
set_option maxHeartbeats 400000 in
theorem slEqEntry_same (v u : Value) (l : List EnD) (w : World) (h : SeesR w v 3 (l.map EnD.cells)) (g : SeesR w u 3 (l.map EnD.cells)) :
    Calls Tryz.prog 71 #[v, u] w fun e w' => e = .returned (.bool true) ∧ ∃ n, w' = w.drewN n := by
  obtain ⟨ao, cap, rfl, hlc, hcm, _, h3⟩ := h
  obtain ⟨bo, cbp, rfl, glc, gcm, _, g3⟩ := g
  unfold maxLen at hcm gcm
  have hg : Tryz.prog.eqGuardType Tryz.prog.depth 105 = false := by kernel_rfl
  rw [List.length_map] at hlc glc ⊢
  go_enter Tryz.func71, Tryz.ntmps71
  go_wp2
  go_loopw [13] (fun i wr => ∃ k m : Nat, k ≤ l.length ∧ i = .int .i64 k ∧ wr = w.drewN m) (fun i _ => l.length - (intOf i).toNat)
  case atStart => exact ⟨0, 0, Nat.zero_le _, rfl, rfl⟩
  case round =>
    obtain ⟨k, m, hk, rfl, rfl⟩ := hrel
    by_cases hlt : k < l.length
    · rcases h3 with h3 | ⟨b, off, rfl, h3⟩
      · have : l.length = 0 := by simpa using congrArg List.length h3
        omega
      · rcases g3 with g3 | ⟨b', off', rfl, g3⟩
        · have : l.length = 0 := by simpa using congrArg List.length g3
          omega
        · have c0 := h3 k (by simpa using hlt) 0 (by omega)
          have c1 := h3 k (by simpa using hlt) 1 (by omega)
          have c2 := h3 k (by simpa using hlt) 2 (by omega)
          have e2 := g3 k (by simpa using hlt) 2 (by omega)
          have e0 := g3 k (by simpa using hlt) 0 (by omega)
          have e1 := g3 k (by simpa using hlt) 1 (by omega)
          simp [EnD.cells] at c0 c1 c2 e0 e1 e2
          clear h3 g3
          generalize l[k] = x at *
          have hq := neqEn x.perms x.id.scheme x.id.name
          go_wp2
          go_quiet (fail)
          go_wp2
          go_roundw
          case rel => exact ⟨k + 1, _, by omega, by go_num, rfl⟩
          case measure => simp [intOf]; omega
    · obtain rfl : k = l.length := by omega
      go_wp2
      go_ret
      exact ⟨rfl, m, rfl⟩

end Go.Proofs.YtoeialngbbfoeaaGreatDoor
