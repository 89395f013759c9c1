/- Messages in memory, a net in memory; what link.New, isNone and has answer. -/
import Derived.Test.YtghngopclhhoeaaDoorMemJ
import Derived.Test.YtghngopclhhoeaaDoorBgAJ
import Derived.Deep.RegionHeld
namespace Go.Proofs.YtghngopclhhoeaaDoor
open Go.RowKit
set_option maxRecDepth 8000

theorem rowKl {w w' : World} {S : Nat → Prop} {base : Nat} {T : TypeId} {z n : Nat} {v : Value} {xs : List Value} (h : w.ownsRow base T z v n xs) (hk : Kept w w' S) (hn : ∀ g, v.ownBlock = some g → ¬ S g) : w'.ownsRow base T z v n xs := by
  obtain ⟨h1, h2 | ⟨g, cap, cur, rfl, a2, a3, a4⟩⟩ := h
  · exact ⟨h1, .inl h2⟩
  · exact ⟨h1, .inr ⟨g, cap, cur, rfl, a2, hk.heap a3 (hn g rfl), a4⟩⟩
theorem rowTl {w : World} {base : Nat} {T : TypeId} {z n : Nat} {v : Value} {xs : List Value} (h : w.ownsRow base T z v n xs) {g : Nat} (hg : v.ownBlock = some g) : ∃ cs, w.heap[g]? = some (.cells cs T (0, 0)) := by
  obtain ⟨_, ⟨rfl, _⟩ | ⟨g', cap, cur, rfl, _, a3, _⟩⟩ := h
  · cases hg
  · simp [Value.ownBlock] at hg
    subst hg
    exact ⟨cur, a3⟩
theorem rowSl {w : World} {base : Nat} {T : TypeId} {z n : Nat} {v : Value} {xs : List Value} (h : w.ownsRow base T z v n xs) : ∃ a c, v = .slice a n c := by
  obtain ⟨_, ⟨rfl, rfl⟩ | ⟨g', cap, cur, rfl, _⟩⟩ := h
  · exact ⟨_, _, rfl⟩
  · exact ⟨_, _, rfl⟩
theorem infoXl {T : TypeId} {z : Value} {s b : Nat} (h : (Tryd.prog.info? T).map (fun i => (i.zero, i.size, i.bytes)) = some (some z, s, b)) : ∃ i, Tryd.prog.info? T = some i ∧ i.zero = some z ∧ i.size = s ∧ i.bytes = b := by
  cases hh : Tryd.prog.info? T with
  | none => rw [hh] at h; simp at h
  | some i => rw [hh] at h; simp at h; exact ⟨i, rfl, h.1, h.2.1, h.2.2⟩
theorem oneL (w : World) (o : Obj) : Below w.heap.size w (w.alloc o) := (Below.refl _ _).alloc (Nat.le_refl _) _
theorem boxL {w w' : World} {o : Obj} {k : Nat} (h : w.heap[k]? = some o) (hB : Below w.heap.size w w') : w'.heap[k]? = some o := (hB.block _ (lt_of_block h)).trans h
theorem row_lowerl {w : World} {base base' : Nat} {T : TypeId} {z n : Nat} {v : Value} {xs : List Value} (h : w.ownsRow base T z v n xs) (hb : base' ≤ base) : w.ownsRow base' T z v n xs := by
  obtain ⟨h1, h2 | ⟨g, cap, cur, rfl, a2, a3⟩⟩ := h
  · exact ⟨h1, .inl h2⟩
  · exact ⟨h1, .inr ⟨g, cap, cur, rfl, Nat.le_trans hb a2, a3⟩⟩

/-- A message: from, to, its bytes, whether one of them was turned; where its bytes lie. -/
structure MsD where
  f : Int
  t : Int
  bs : List Int
  sp : Bool
  g : Nat
  off : Nat
  c : Nat
@[reducible] def MsD.v (m : MsD) : Value := .slice (some ⟨m.g, m.off, none⟩) m.bs.length m.c
@[reducible] def MsD.cs (m : MsD) : List Value := [.int .i8 m.f, .int .i8 m.t, m.v, .bool m.sp]
def msFlat : List MsD → List Value
  | [] => []
  | m :: r => .int .i8 m.f :: .int .i8 m.t :: m.v :: .bool m.sp :: msFlat r
theorem msFlat_len : ∀ l : List MsD, (msFlat l).length = l.length * 4
  | [] => rfl
  | x :: r => by simp [msFlat, msFlat_len r]; omega
theorem msFlat_app : ∀ (l m : List MsD), msFlat (l ++ m) = msFlat l ++ msFlat m
  | [], _ => rfl
  | x :: r, m => by simp [msFlat, msFlat_app r m]
theorem msFlat_at : ∀ (l : List MsD) (i : Nat) (x : MsD), l[i]? = some x → (msFlat l)[i * 4]? = some (.int .i8 x.f) ∧ (msFlat l)[i * 4 + 1]? = some (.int .i8 x.t) ∧ (msFlat l)[i * 4 + 2]? = some x.v ∧ (msFlat l)[i * 4 + 3]? = some (.bool x.sp)
  | y :: r, 0, x, h => by simp at h; subst h; exact ⟨rfl, rfl, rfl, rfl⟩
  | y :: r, i + 1, x, h => by
    have := msFlat_at r i x (by simpa using h)
    rw [show (i + 1) * 4 = i * 4 + 1 + 1 + 1 + 1 by omega]
    exact this
theorem msFlat_cell : ∀ (l : List MsD), ∀ u ∈ msFlat l, u.oneCell' = true
  | [], u, h => by simp [msFlat] at h
  | x :: r, u, h => by
    simp only [msFlat, List.mem_cons] at h
    rcases h with rfl | rfl | rfl | rfl | h
    · rfl
    · rfl
    · rfl
    · rfl
    · exact msFlat_cell r u h

/-- A message's cells at a place. -/
structure MsAt (w : World) (b o : Nat) (m : MsD) : Prop where
  c0 : w.cell? ⟨b, o, none⟩ = some (.int .i8 m.f)
  c1 : w.cell? ⟨b, o + 1, none⟩ = some (.int .i8 m.t)
  c2 : w.cell? ⟨b, o + 2, none⟩ = some m.v
  c3 : w.cell? ⟨b, o + 3, none⟩ = some (.bool m.sp)
theorem MsAt.kept {w w' : World} {S : Nat → Prop} {b o : Nat} {m : MsD} (h : MsAt w b o m) (hk : Kept w w' S) (hn : ¬ S b) : MsAt w' b o m := ⟨hk.cell h.c0 hn, hk.cell h.c1 hn, hk.cell h.c2 hn, hk.cell h.c3 hn⟩
theorem MsAt.below {w w' : World} {b o : Nat} {m : MsD} (h : MsAt w b o m) (hk : Below w.heap.size w w') : MsAt w' b o m := h.kept (Below.kept hk) (by have := World.block_lt_of_cell? w _ h.c0; simp at this; omega)

/-- A list of messages in memory, to be read. -/
def SM (w : World) (v : Value) (l : List MsD) : Prop := ∃ ao cap, v = .slice ao l.length cap ∧ l.length ≤ cap ∧ (∀ m ∈ l, Sees w m.v m.bs) ∧ (l ≠ [] → ∃ b off, ao = some ⟨b, off, none⟩ ∧ ∀ i m, l[i]? = some m → MsAt w b (off + i * 4) m)

theorem SM_owns {w : World} {base : Nat} {v : Value} {l : List MsD} (h : w.ownsRow base 72 4 v l.length (msFlat l)) (hs : ∀ m ∈ l, Sees w m.v m.bs) : SM w v l := by
  obtain ⟨_, ⟨rfl, h0⟩ | ⟨g, cap, cur, rfl, _, a3, a4, _, _, a7⟩⟩ := h
  · have : l = [] := List.length_eq_zero_iff.1 h0
    subst this
    exact ⟨none, 0, rfl, Nat.le_refl _, hs, fun hn => absurd rfl hn⟩
  · refine ⟨_, cap, rfl, a4, hs, fun _ => ⟨g, 0, rfl, fun i x hx => ?_⟩⟩
    have hi : i < l.length := by
      rcases Nat.lt_or_ge i l.length with h' | h'
      · exact h'
      · rw [List.getElem?_eq_none h'] at hx; cases hx
    obtain ⟨e1, e2, e3, e4⟩ := msFlat_at l i x hx
    rw [← a7, List.getElem?_take, if_pos (by omega)] at e1 e2 e3 e4
    rw [Nat.zero_add]
    exact ⟨by rw [cell_of_row w g _ _ _ _ a3, ← Array.getElem?_toList]; exact e1, by rw [cell_of_row w g _ _ _ _ a3, ← Array.getElem?_toList]; exact e2, by rw [cell_of_row w g _ _ _ _ a3, ← Array.getElem?_toList]; exact e3, by rw [cell_of_row w g _ _ _ _ a3, ← Array.getElem?_toList]; exact e4⟩

theorem Tryd.infoMs : (Tryd.prog.info? 72).map (fun i => (i.zero, i.size, i.bytes)) = some (some (.agg #[.int .i8 0, .int .i8 0, .slice none 0 0, .bool false]), 4, 40) := by kernel_rfl

/-- A message under way: its bytes lie in a block of their own. -/
structure MsOk (w : World) (m : MsD) : Prop where
  off : m.off = 0
  ow : Owns w 0 m.v m.bs
  lo : 1 ≤ m.bs.length
  hi : m.bs.length ≤ 8192
  by' : Byts m.bs
theorem MsOk.lt {w : World} {m : MsD} (h : MsOk w m) : m.g < w.heap.size := (h.ow.lt m.g rfl).2
theorem MsOk.kept {w w' : World} {S : Nat → Prop} {m : MsD} (h : MsOk w m) (hk : Kept w w' S) (hn : ¬ S m.g) : MsOk w' m := ⟨h.off, h.ow.kept hk (fun k e => by cases e; exact hn), h.lo, h.hi, h.by'⟩
theorem MsOk.sees {w : World} {m : MsD} (h : MsOk w m) : Sees w m.v m.bs := Sees.own h.ow

/-- A net in memory: so many servers; its messages. -/
structure Nt (w : World) (b : Nat) (n : Int) (v : Value) (l : List MsD) : Prop where
  hb : w.heap[b]? = some (.cells #[.int .i64 n, v] 78 (0, 0))
  ho : w.ownsRow 0 72 4 v l.length (msFlat l)
  hm : ∀ m ∈ l, MsOk w m
  nd : (l.map MsD.g).Nodup
  n1 : 1 ≤ n
  n7 : n ≤ 7
/-- The blocks of a net. -/
def Fn (b : Nat) (v : Value) (l : List MsD) (k : Nat) : Prop := k = b ∨ v.ownBlock = some k ∨ ∃ m ∈ l, m.g = k

theorem Nt.lt {w : World} {b : Nat} {n : Int} {v : Value} {l : List MsD} (h : Nt w b n v l) {k : Nat} (hk : Fn b v l k) : k < w.heap.size := by
  rcases hk with rfl | hk | ⟨m, hm, rfl⟩
  · exact lt_of_block h.hb
  · exact (h.ho.lt k hk).2
  · exact (h.hm m hm).lt
theorem Nt.kept {w w' : World} {S : Nat → Prop} {b : Nat} {n : Int} {v : Value} {l : List MsD} (h : Nt w b n v l) (hk : Kept w w' S) (hn : ∀ k, Fn b v l k → ¬ S k) : Nt w' b n v l :=
  ⟨hk.heap h.hb (hn b (.inl rfl)), rowKl h.ho hk (fun g hg => hn g (.inr (.inl hg))), fun m hm => (h.hm m hm).kept hk (hn _ (.inr (.inr ⟨m, hm, rfl⟩))), h.nd, h.n1, h.n7⟩
theorem Nt.below {w w' : World} {b : Nat} {n : Int} {v : Value} {l : List MsD} (h : Nt w b n v l) (hB : Below w.heap.size w w') : Nt w' b n v l :=
  h.kept (Below.kept hB) (fun k hk => by have := h.lt hk; omega)
theorem Nt.drewN {w : World} {b : Nat} {n : Int} {v : Value} {l : List MsD} (h : Nt w b n v l) (k : Nat) : Nt (w.drewN k) b n v l := ⟨h.hb, h.ho, fun m hm => ⟨(h.hm m hm).off, (h.hm m hm).ow, (h.hm m hm).lo, (h.hm m hm).hi, (h.hm m hm).by'⟩, h.nd, h.n1, h.n7⟩
theorem Nt.c0 {w : World} {b : Nat} {n : Int} {v : Value} {l : List MsD} (h : Nt w b n v l) : w.cell? ⟨b, 0, none⟩ = some (.int .i64 n) := by rw [cell_of_row w b 0 _ _ _ h.hb]; rfl
theorem Nt.c1 {w : World} {b : Nat} {n : Int} {v : Value} {l : List MsD} (h : Nt w b n v l) : w.cell? ⟨b, 1, none⟩ = some v := by rw [cell_of_row w b 1 _ _ _ h.hb]; rfl
theorem Nt.ne {w : World} {b : Nat} {n : Int} {v : Value} {l : List MsD} (h : Nt w b n v l) : v.ownBlock ≠ some b ∧ (∀ m ∈ l, m.g ≠ b) ∧ ∀ m ∈ l, v.ownBlock ≠ some m.g := by
  refine ⟨fun e => ?_, fun m hm e => ?_, fun m hm e => ?_⟩
  · obtain ⟨cs, e'⟩ := rowTl h.ho e; have := h.hb; rw [e'] at this; simp at this
  · obtain ⟨cs, e'⟩ := rowTl (h.hm m hm).ow rfl; have := h.hb; rw [e] at e'; rw [e'] at this; simp at this
  · obtain ⟨cs, e'⟩ := rowTl (h.hm m hm).ow rfl; obtain ⟨cs', e2⟩ := rowTl h.ho e; rw [e'] at e2; simp at e2
theorem Nt.sm {w : World} {b : Nat} {n : Int} {v : Value} {l : List MsD} (h : Nt w b n v l) : SM w v l := SM_owns h.ho (fun m hm => (h.hm m hm).sees)

theorem new_bad (w : World) (n : Int) (hn : n < 1 ∨ 7 < n) : Calls Tryd.prog 6 #[.int .i64 n] w fun e w' => e = .returned (.tuple #[.pointer none, .int .i64 1]) ∧ w' = w := by
  by_cases q : n < 1
  · have d1 : decide (n < 1) = true := by simp; omega
    go_enter Tryd.func6, Tryd.ntmps6
    go_wp2
    all_goals (go_ret2; exact ⟨rfl, rfl⟩)
  · have d1 : decide (n < 1) = false := by simp; omega
    have d2 : decide (7 < n) = true := by simp; omega
    go_enter Tryd.func6, Tryd.ntmps6
    go_wp2
    all_goals (go_ret2; exact ⟨rfl, rfl⟩)

theorem new_good (w : World) (n : Int) (h1 : 1 ≤ n) (h7 : n ≤ 7) : Calls Tryd.prog 6 #[.int .i64 n] w fun e w' => e = .returned (.tuple #[.pointer (some ⟨w.heap.size, 0, none⟩), .int .i64 0]) ∧ Nt w' w.heap.size n (.slice none 0 0) [] ∧ Below w.heap.size w w' := by
  have d1 : decide (n < 1) = false := by simp; omega
  have d2 : decide (7 < n) = false := by simp; omega
  have HB : Hid (Nt (w.alloc (.cells #[.int .i64 n, .slice none 0 0] 78)) w.heap.size n (.slice none 0 0) [] ∧ Below w.heap.size w (w.alloc (.cells #[.int .i64 n, .slice none 0 0] 78))) :=
    ⟨⟨heap_alloc_new w _, World.ownsRow_nil _ _ _ _, fun m hm => by simp at hm, by simp, h1, h7⟩, oneL w _⟩
  go_enter Tryd.func6, Tryd.ntmps6
  go_wp2
  all_goals (go_ret2; exact ⟨rfl, HB.out⟩)

theorem isNone_noL {w : World} {b : Nat} {n : Int} {v : Value} {l : List MsD} (h : Nt w b n v l) : Calls Tryd.prog 48 #[.pointer (some ⟨b, 0, none⟩)] w fun e w' => e = .returned (.bool false) ∧ w' = w := by
  have c0 := h.c0
  have hz := lt_of_block h.hb
  have dn : (n == 0) = false := by have := h.n1; simp; omega
  clear h
  go_enter Tryd.func48, Tryd.ntmps48
  go_wp2
  all_goals (go_ret; first | exact ⟨rfl, rfl⟩ | (refine ⟨?_, rfl⟩; simp_all))

/-- Whether a server has this number. -/
def hasL (n k : Int) : Bool := decide (0 ≤ k) && decide (k < n)
theorem has_anyL {w : World} {b : Nat} {n : Int} {v : Value} {l : List MsD} (h : Nt w b n v l) (k : Int) (h0 : -128 ≤ k) (h1 : k ≤ 127) : Calls Tryd.prog 49 #[.pointer (some ⟨b, 0, none⟩), .int .i8 k] w fun e w' => e = .returned (.bool (hasL n k)) ∧ w' = w := by
  have c0 := h.c0
  have hz := lt_of_block h.hb
  have hw : IntKind.i64.wrap k = k := by rw [IntKind.wrap_i64]; omega
  unfold hasL
  by_cases q : 0 ≤ k
  · have d1 : decide (0 ≤ k) = true := by simp; omega
    rw [d1]
    clear h
    go_enter Tryd.func49, Tryd.ntmps49
    go_wp2
    all_goals (go_ret; first | exact ⟨rfl, rfl⟩ | (refine ⟨?_, rfl⟩; simp_all))
  · have d1 : decide (0 ≤ k) = false := by simp; omega
    rw [d1]
    clear h
    go_enter Tryd.func49, Tryd.ntmps49
    go_wp2
    all_goals (go_ret; first | exact ⟨rfl, rfl⟩ | (refine ⟨?_, rfl⟩; simp_all))

end Go.Proofs.YtghngopclhhoeaaDoor
