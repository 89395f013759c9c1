/- The document's bytes of a manifest: join, Bytes, Write. -/
import Derived.Test.YtiakjeomedijkaaGreatDoorReaderJ
import Derived.Test.YtiakjeomedijkaaGreatDoorRef3J
import Derived.Test.YtiakjeomedijkaaGreatDoorMaMJ
import Derived.Maps.AppendAt
import Derived.Test.YtiakjeomedijkaaGreatDoorWriterJ
namespace Go.Proofs.YtiakjeomedijkaaGreatDoor
open Go.RowKit
set_option maxRecDepth 8000

theorem mOwns_new (w : World) (cs : Array Value) (ys : List Int) (hl : ys.length ≤ 4096) (h : cs.toList = ys.map (Value.int .u8)) : Owns (w.alloc (.cells cs 5)) w.heap.size (.slice (some ⟨w.heap.size, 0, none⟩) ys.length ys.length) ys := by
  have hs : cs.size = ys.length * 1 := by
    have := congrArg List.length h
    simp at this
    omega
  have := World.ownsRow_lit (base := w.heap.size) (e := 5) (size := 1) w cs ys.length (Nat.le_refl _) (by unfold maxLen; omega) hs
  rw [h] at this
  exact this

theorem rI8_m (n : Int) (w : World) (h0 : -128 ≤ n) (h1 : n ≤ 127) : Calls Tryz.prog 58 #[.int .i8 n] w fun e w' => ∃ v', e = .returned v' ∧ Owns w' w.heap.size v' [n % 256] ∧ Below w.heap.size w w' := by
  by_cases hn : n < 0
  · go_enter Tryz.func58, Tryz.ntmps58
    go_wp2
    go_ret
    exact ⟨_, rfl, mOwns_new w _ [n % 256] (by simp) (by simp; omega), (Below.refl _ _).alloc (Nat.le_refl _) _⟩
  · go_enter Tryz.func58, Tryz.ntmps58
    go_wp2
    go_ret
    exact ⟨_, rfl, mOwns_new w _ [n % 256] (by simp) (by simp; omega), (Below.refl _ _).alloc (Nat.le_refl _) _⟩

set_option maxHeartbeats 400000 in
theorem rU32_m (n : Int) (w : World) (h0 : 0 ≤ n) (h1 : n < 4294967296) : Calls Tryz.prog 60 #[.int .u32 n] w fun e w' => ∃ v', e = .returned v' ∧ Owns w' w.heap.size v' (be4 n) ∧ Below w.heap.size w w' := by
  have hd : Hid (digs 4 n = be4 n) := digs4 n h0 h1
  go_enter Tryz.func60, Tryz.ntmps60
  go_wp2_with fail
  refine (digits_any n 4 _ (by omega) (by omega) (by omega)).mono ?_
  rintro e w1 ⟨v, rfl, hp⟩
  rw [hd.out] at hp
  have HP : Hid (Owns w1 w.heap.size v (be4 n) ∧ Below w.heap.size w w1) := hp
  clear hp
  go_wp2
  go_ret
  exact ⟨_, rfl, HP.out⟩

/-- The row v grew to v', of the bytes zs: no other block of w changed. -/
structure BehM (B : Nat) (w : World) (v : Value) (zs : List Int) (w' : World) (v' : Value) : Prop where
  own : Owns w' B v' zs
  kept : Kept w w' (fun k => v.ownBlock = some k)
  blk : ∀ j, v'.ownBlock = some j → v.ownBlock = some j ∨ w.heap.size ≤ j
  base : B ≤ w'.heap.size

theorem BehM.trans {B : Nat} {w w1 w2 : World} {v v1 v2 : Value} {xs ys : List Int} (h : BehM B w v xs w1 v1) (g : BehM B w1 v1 ys w2 v2) : BehM B w v ys w2 v2 := by
  have hs := h.kept.size
  refine ⟨g.own, ⟨?_, ?_, ?_, ?_, fun k hk hn => ?_⟩, fun j e => ?_, g.base⟩
  · rw [g.kept.os, h.kept.os]
  · rw [g.kept.tape, h.kept.tape]
  · rw [g.kept.output, h.kept.output]
  · have := g.kept.size; omega
  · rw [g.kept.block k (by omega) (fun e => ?_), h.kept.block k hk hn]
    rcases h.blk k e with h' | h'
    · exact hn h'
    · omega
  · rcases g.blk j e with h' | h'
    · exact h.blk j h'
    · exact .inr (by omega)

theorem BehM.refl {B : Nat} {w : World} {v : Value} {xs : List Int} (h : Owns w B v xs) (hB : B ≤ w.heap.size) : BehM B w v xs w v := ⟨h, Kept.refl _ _, fun _ e => .inl e, hB⟩

/-- Blocks came behind. -/
theorem BehM.later {B : Nat} {w w1 w2 : World} {v v1 : Value} {xs : List Int} (h : BehM B w v xs w1 v1) (hb : Below w1.heap.size w1 w2) : BehM B w v xs w2 v1 :=
  ⟨Owns.kept h.own (Below.kept hb) (fun k e h' => by have := (h.own.lt k e).2; omega), h.kept.trans ((Below.kept hb).mono (S' := fun _ => False) (fun k hk h' => by omega)) (fun _ _ h' => h'.elim), h.blk, Nat.le_trans h.base hb.size⟩

theorem BehM.below {B : Nat} {w w' : World} {v v' : Value} {xs zs : List Int} (h : BehM B w v zs w' v') (hv : Owns w B v xs) (hB : B ≤ w.heap.size) : Below B w w' :=
  ⟨h.kept.os, h.kept.tape, h.kept.output, h.kept.size, fun k hk => h.kept.block k (by omega) (fun e => by have := (hv.lt k e).1; omega)⟩

theorem bem_step {B : Nat} {w wr w1 : World} {v0 v v' : Value} {xs : List Int} {x : Int} {o : Obj} (h : BehM B w v0 xs wr v)
    (hown' : w1.ownsRow B 5 1 v' (xs.length + 1) (xs.map (Value.int .u8) ++ [.int .u8 x])) (hgrow : (wr.alloc o).grownBy w1 v.ownBlock) (hb : v'.ownBlock = v.ownBlock ∨ v'.ownBlock = some (wr.heap.size + 1)) :
    BehM B w v0 (xs ++ [x]) w1 v' := by
  have hsz := h.kept.size
  have ha : Kept wr (wr.alloc o) (fun _ => False) := (Kept.refl wr _).alloc _
  have hsa : (wr.alloc o).heap.size = wr.heap.size + 1 := by simp
  have hg := hgrow.size
  refine h.trans ⟨by simpa [Owns] using hown', ⟨?_, ?_, ?_, by omega, fun k hk' hS => ?_⟩, fun j e => ?_, by have := h.base; omega⟩
  · rw [hgrow.os, ha.os]
  · rw [hgrow.tape, ha.tape]
  · rw [hgrow.output, ha.output]
  · rw [hgrow.block k (by omega) (fun e => hS e.symm), ha.block k hk' (fun h => h)]
  · rcases hb with h | h
    · rw [h] at e; exact .inl e
    · rw [h] at e; simp at e; omega

set_option maxHeartbeats 1000000 in
theorem mjoin_any (B : Nat) (v u : Value) (xs ys : List Int) (w : World) (hv : Owns w B v xs) (hu : Sees w u ys) (hd : ∀ j, u.ownBlock = some j → v.ownBlock ≠ some j) (hB : B ≤ w.heap.size) (hl : xs.length + ys.length ≤ 1000000000) :
    Calls Tryz.prog 59 #[v, u] w fun e w' => ∃ v', e = .returned v' ∧ BehM B w v (xs ++ ys) w' v' := by
  obtain ⟨i0, hi, hz0, hz1, hz2⟩ := info_parts Tryz.infoByte
  obtain ⟨ao, cap, rfl, hlc, hcm, _, h3⟩ := hu
  unfold maxLen at hcm
  have H3 : Hid _ := h3
  have HV : Hid (Owns w B v xs) := hv
  have HD : Hid _ := hd
  clear h3 hv hd
  go_enter Tryz.func59, Tryz.ntmps59
  go_wp2
  go_loopw [0, 5] (fun v' i wr => ∃ k : Nat, k ≤ ys.length ∧ i = .int .i64 k ∧ BehM B w v (xs ++ ys.take k) wr v') (fun _ i _ => ys.length - (intOf i).toNat)
  case atStart => exact ⟨0, Nat.zero_le _, rfl, by simpa using BehM.refl HV.out hB⟩
  case round =>
    clear HV
    obtain ⟨k, hk, rfl, hbe⟩ := hrel
    by_cases hlt : k < ys.length
    · rcases H3.out with h3 | ⟨b, off, rfl, h3⟩
      · subst h3; simp at hlt
      · have hc := hbe.kept.cell (h3 k hlt) (fun e => HD.out b rfl e)
        have HN : Hid _ := take_next ys k hlt
        have HL : Hid ((xs ++ ys.take k).length ≤ xs.length + k) := by show _ ≤ _; simp; omega
        clear h3 H3
        generalize ys.getD k 0 = x at *
        have HN2 : Hid (xs ++ ys.take (k + 1) = (xs ++ ys.take k) ++ [x]) := by show _ = _; rw [HN.out]; simp
        clear HN
        generalize xs ++ ys.take k = zs at *
        have HK : Hid _ := hbe
        have hown := hbe.own
        have hsz := hbe.base
        clear hbe
        go_wp2_with (at_builtin; refine wpList_append_own_at _ rfl _ _ 26 rfl B 5 i0 (.int .u8 0) 1 1 Tryz.underlying26 hi hz0 hz1 hz2 rfl (by decide) _ _ _ rfl (hown.alloc _) ⟨wr.heap.size, 0, none⟩ 1 1 [.int .u8 x] rfl rfl (cell_one_new _ _ _) ?c2 ?c3 ?c4 ?c5 ?_)
        case c2 => intro u hu; simp at hu; subst hu; rfl
        case c3 => have := HL.out; unfold maxLen; omega
        case c4 => have := HL.out; omega
        case c5 => simp; omega
        intro v' w1 hown' hgrow _ hbk
        have R : Hid _ := bem_step HK.out hown' hgrow (by simpa using hbk)
        clear hown' hgrow hown hc hbk HK
        go_wp2
        go_roundw
        case rel => exact ⟨k + 1, by omega, by go_num, by rw [HN2.out]; exact R.out⟩
        case measure => simp [intOf]; omega
    · obtain rfl : k = ys.length := by omega
      rw [List.take_length] at hbe
      have HE : Hid _ := hbe
      clear hbe
      go_wp2
      go_ret
      exact ⟨_, rfl, HE.out⟩

/-- Bytes that were just made, behind others. -/
theorem mjoin_new {B : Nat} {v0 v u : Value} {xs ys : List Int} {w0 w w1 : World} (hv : BehM B w0 v0 xs w v) (hb : Below w.heap.size w w1) (hu : Owns w1 w.heap.size u ys) (hl : xs.length + ys.length ≤ 1000000000) :
    Calls Tryz.prog 59 #[v, u] w1 fun e w' => ∃ v', e = .returned v' ∧ BehM B w0 v0 (xs ++ ys) w' v' ∧ Kept w1 w' (fun k => v.ownBlock = some k) :=
  (mjoin_any B v u xs ys w1 (hv.later hb).own (Sees.own hu) (fun j e e' => by have h1 := (hu.lt j e).1; have h2 := (hv.own.lt j e').2; omega) (hv.later hb).base hl).mono fun e w' ⟨v', h1, h2⟩ => ⟨v', h1, (hv.later hb).trans h2, h2.kept⟩

end Go.Proofs.YtiakjeomedijkaaGreatDoor

/- Lists in memory, their room, and what stays when some cells are written over; no Go function is walked here. -/
namespace Go.Proofs.YtiakjeomedijkaaGreatDoor
open Go.RowKit
set_option maxRecDepth 8000

/-- All cells but those of S are in w' as they were; no block is gone, or has another length. -/
structure Turned (w w' : World) (S : Nat → Nat → Prop) : Prop where
  os : w'.os = w.os
  tape : w'.tape = w.tape
  output : w'.output = w.output
  size : w.heap.size ≤ w'.heap.size
  same : ∀ k, k < w.heap.size → (∀ i, ¬ S k i) → w'.heap[k]? = w.heap[k]?
  row : ∀ k cs t fr, w.heap[k]? = some (.cells cs t fr) → ∃ cs', w'.heap[k]? = some (.cells cs' t fr) ∧ cs'.size = cs.size ∧ ∀ i, ¬ S k i → cs'[i]? = cs[i]?

section
variable {a b c w w' : World} {S S' : Nat → Nat → Prop}

theorem Turned.refl (w : World) (S : Nat → Nat → Prop) : Turned w w S := ⟨rfl, rfl, rfl, Nat.le_refl _, fun _ _ _ => rfl, fun _ cs _ _ h => ⟨cs, h, rfl, fun _ _ => rfl⟩⟩

theorem Turned.mono (h : Turned w w' S) (hS : ∀ k i, k < w.heap.size → S k i → S' k i) : Turned w w' S' :=
  ⟨h.os, h.tape, h.output, h.size, fun k hk hn => h.same k hk fun i hs => hn i (hS k i hk hs), fun k cs t fr hr => by
    obtain ⟨cs', h1, h2, h3⟩ := h.row k cs t fr hr
    exact ⟨cs', h1, h2, fun i hn => h3 i fun hs => hn (hS k i (lt_of_block hr) hs)⟩⟩

theorem Turned.trans (h : Turned a b S) (g : Turned b c S') (hS : ∀ k i, k < a.heap.size → S' k i → S k i) : Turned a c S :=
  ⟨g.os.trans h.os, g.tape.trans h.tape, g.output.trans h.output, Nat.le_trans h.size g.size,
    fun k hk hn => (g.same k (Nat.lt_of_lt_of_le hk h.size) fun i hs => hn i (hS k i hk hs)).trans (h.same k hk hn), fun k cs t fr hr => by
    obtain ⟨c1, h1, h2, h3⟩ := h.row k cs t fr hr
    obtain ⟨c2, k1, k2, k3⟩ := g.row k c1 t fr h1
    exact ⟨c2, k1, k2.trans h2, fun i hn => (k3 i fun hs => hn (hS k i (lt_of_block hr) hs)).trans (h3 i hn)⟩⟩

theorem Turned.of_kept (h : Kept w w' (fun _ => False)) (S : Nat → Nat → Prop) : Turned w w' S :=
  ⟨h.os, h.tape, h.output, h.size, fun k hk _ => h.block k hk (fun h => h), fun _ cs _ _ hr => ⟨cs, h.heap hr (fun h => h), rfl, fun _ _ => rfl⟩⟩

theorem Turned.new (h : Turned a w S) (hk : Kept w w' (fun _ => False)) : Turned a w' S := h.trans (Turned.of_kept hk (fun _ _ => False)) (fun _ _ _ h => h.elim)
theorem Turned.alloc (h : Turned a w S) (o : Obj) : Turned a (w.alloc o) S := h.new ((Kept.refl w _).alloc o)

/-- A block that was not there at the start may be written over at will. -/
theorem Turned.own (h : Turned a w S) {B : Nat} (hB : a.heap.size ≤ B) (hk : Kept w w' (fun k => B ≤ k)) : Turned a w' S :=
  ⟨hk.os.trans h.os, hk.tape.trans h.tape, hk.output.trans h.output, Nat.le_trans h.size hk.size,
    fun k hk' hn => (hk.block k (Nat.lt_of_lt_of_le hk' h.size) (by omega)).trans (h.same k hk' hn), fun k cs t fr hr => by
    obtain ⟨c1, h1, h2, h3⟩ := h.row k cs t fr hr
    have := lt_of_block hr
    exact ⟨c1, hk.heap h1 (by omega), h2, h3⟩⟩

theorem Turned.setCell (h : Turned a w S) {k i : Nat} (v : Value) (hS : k < a.heap.size → S k i) : Turned a (w.setCell ⟨k, i, none⟩ v) S := by
  refine ⟨h.os, h.tape, h.output, ?_, fun j hj hn => ?_, fun j cs t fr hr => ?_⟩
  · have : (w.setCell ⟨k, i, none⟩ v).heap.size = w.heap.size := by simp [World.setCell]
    rw [this]; exact h.size
  · rw [Below.heap_setCell _ _ _ _ (fun e => by have e' : j = k := e; subst e'; exact hn i (hS hj))]
    exact h.same j hj hn
  · obtain ⟨c1, h1, h2, h3⟩ := h.row j cs t fr hr
    by_cases e : j = k
    · subst e
      refine ⟨c1.setIfInBounds i v, ?_, by rw [Array.size_setIfInBounds]; exact h2, fun x hx => ?_⟩
      · rw [setCell_eq_setRow w j i c1 t fr v h1]; exact setRow_heap w j c1 _ t fr h1
      · rw [Array.getElem?_setIfInBounds_ne (fun e => hx (by subst e; exact hS (lt_of_block hr)))]
        exact h3 x hx
    · exact ⟨c1, by rw [Below.heap_setCell _ _ _ _ e]; exact h1, h2, h3⟩

theorem cell_row {k i : Nat} {v : Value} (h : w.cell? ⟨k, i, none⟩ = some v) : ∃ cs t fr, w.heap[k]? = some (.cells cs t fr) ∧ cs[i]? = some v := by
  unfold World.cell? at h
  split at h
  · rename_i cs t fr hr
    exact ⟨cs, t, fr, hr, by simpa using h⟩
  · simp at h

theorem Turned.cell (h : Turned w w' S) {k i : Nat} {v : Value} (hc : w.cell? ⟨k, i, none⟩ = some v) (hn : ¬ S k i) : w'.cell? ⟨k, i, none⟩ = some v := by
  obtain ⟨cs, t, fr, hr, hi⟩ := cell_row hc
  obtain ⟨cs', h1, _, h3⟩ := h.row k cs t fr hr
  rw [cell_of_row w' k i cs' t fr h1, h3 i hn, hi]

theorem Turned.below (h : Turned w w' S) {B : Nat} (hB : B ≤ w.heap.size) (hS : ∀ k i, S k i → B ≤ k) : Below B w w' :=
  ⟨h.os, h.tape, h.output, h.size, fun k hk => h.same k (by omega) fun i hs => by have := hS k i hs; omega⟩

end

/-- A list: where it lies, its length, its room. -/
structure Pc where
  ao : Option Addr
  n : Nat
  cap : Nat

def Pc.val (p : Pc) : Value := .slice p.ao p.n p.cap
/-- The cells of a list's room; of its spare room. -/
def Pc.foot (p : Pc) (k i : Nat) : Prop := ∃ off, p.ao = some ⟨k, off, none⟩ ∧ off ≤ i ∧ i < off + p.cap
def Pc.spare (p : Pc) (k i : Nat) : Prop := ∃ off, p.ao = some ⟨k, off, none⟩ ∧ off + p.n ≤ i ∧ i < off + p.cap

/-- A list lies in a row of elements of type E, all of its room. -/
structure Lies (w : World) (E : TypeId) (p : Pc) : Prop where
  le : p.n ≤ p.cap
  most : p.cap ≤ maxLen
  nil : p.ao = none → p.cap = 0
  at' : 0 < p.cap → ∃ k off cs, p.ao = some ⟨k, off, none⟩ ∧ w.heap[k]? = some (.cells cs E (0, 0)) ∧ off + p.cap ≤ cs.size

/-- The elements of a list. -/
def Pc.Has (w : World) (p : Pc) (xs : List Value) : Prop := xs.length = p.n ∧ (xs = [] ∨ ∃ k off, p.ao = some ⟨k, off, none⟩ ∧ ∀ i (h : i < xs.length), w.cell? ⟨k, off + i, none⟩ = some xs[i])

section
variable {w w' : World} {S : Nat → Nat → Prop} {E : TypeId} {p q : Pc} {xs : List Value}

theorem Lies.turned (h : Lies w E p) (ht : Turned w w' S) : Lies w' E p :=
  ⟨h.le, h.most, h.nil, fun h0 => by
    obtain ⟨k, off, cs, h1, h2, h3⟩ := h.at' h0
    obtain ⟨cs', k1, k2, _⟩ := ht.row k cs E (0, 0) h2
    exact ⟨k, off, cs', h1, k1, by omega⟩⟩

theorem Pc.Has.turned (h : p.Has w xs) (ht : Turned w w' S) (hn : ∀ k i, p.foot k i → p.spare k i ∨ ¬ S k i) (hc : p.n ≤ p.cap) : p.Has w' xs := by
  refine ⟨h.1, ?_⟩
  rcases h.2 with h0 | ⟨k, off, h1, h2⟩
  · exact .inl h0
  · refine .inr ⟨k, off, h1, fun i hi => ht.cell (h2 i hi) ?_⟩
    have hl := h.1
    rcases hn k (off + i) ⟨off, h1, by omega, by omega⟩ with ⟨off', e, h3, _⟩ | hn
    · rw [h1] at e; simp at e; all_goals omega
    · exact hn

theorem Pc.spare_foot {k i : Nat} (h : p.spare k i) : p.foot k i := by
  obtain ⟨off, h1, h2, h3⟩ := h
  exact ⟨off, h1, by omega, h3⟩

theorem Lies.foot_lt (h : Lies w E p) {k i : Nat} (hf : p.foot k i) : k < w.heap.size ∧ ∃ cs, w.heap[k]? = some (.cells cs E (0, 0)) := by
  obtain ⟨off, h1, h2, h3⟩ := hf
  obtain ⟨k', off', cs, k1, k2, k3⟩ := h.at' (by omega)
  rw [h1] at k1
  simp at k1
  obtain ⟨rfl, rfl⟩ := k1
  exact ⟨lt_of_block k2, cs, k2⟩

/-- Lists of a call's own make. -/
theorem own_has {base : Nat} {v : Value} (h : w.ownsRow base E 1 v xs.length xs) : ∃ p : Pc, v = p.val ∧ p.n = xs.length ∧ p.Has w xs ∧ Lies w E p ∧ ∀ k i, p.foot k i → base ≤ k := by
  rcases h.2 with ⟨rfl, h0⟩ | ⟨g, cap, cur, rfl, hb, hg, h1, h2, h3, h4⟩
  · have hx : xs = [] := List.eq_nil_of_length_eq_zero h0
    subst hx
    exact ⟨⟨none, 0, 0⟩, rfl, rfl, ⟨rfl, .inl rfl⟩, ⟨Nat.le_refl _, Nat.zero_le _, fun _ => rfl, fun h => by simp at h⟩, fun k i ⟨off, e, _⟩ => by simp at e⟩
  · refine ⟨⟨some ⟨g, 0, none⟩, xs.length, cap⟩, rfl, rfl, ⟨rfl, .inr ⟨g, 0, rfl, fun i hi => ?_⟩⟩, ⟨h1, h2, fun e => by simp at e, fun _ => ⟨g, 0, cur, rfl, hg, by simp at h3 ⊢; omega⟩⟩, fun k i ⟨off, e, _⟩ => by simp at e; omega⟩
    rw [Nat.zero_add, cell_of_row w g i cur E (0, 0) hg]
    have e : cur.toList.take xs.length = xs := by simpa using h4
    have e2 : (cur.toList.take xs.length)[i]? = some xs[i] := by rw [e]; exact List.getElem?_eq_getElem hi
    rw [List.getElem?_take, if_pos hi, Array.getElem?_toList] at e2
    exact e2

end

/-- A list that is grown: the room of p is filled, or there is a new row. -/
def Grown (wi wr : World) (E : TypeId) (p : Pc) (m : Value) (xs : List Value) : Prop :=
  Turned wi wr p.spare ∧ p.n ≤ xs.length ∧ ((m = (⟨p.ao, xs.length, p.cap⟩ : Pc).val ∧ xs.length ≤ p.cap ∧ (⟨p.ao, xs.length, p.cap⟩ : Pc).Has wr xs) ∨ wr.ownsRow wi.heap.size E 1 m xs.length xs)

theorem Grown.start {w : World} {E : TypeId} {p : Pc} {xs : List Value} (h : p.Has w xs) (hl : Lies w E p) : Grown w w E p p.val xs := by
  obtain ⟨ao, n, cap⟩ := p
  have e : xs.length = n := h.1
  subst e
  exact ⟨Turned.refl _ _, Nat.le_refl _, .inl ⟨rfl, hl.le, h⟩⟩

theorem Pc.Has.kept {w w' : World} {p : Pc} {xs : List Value} (h : p.Has w xs) (hk : Kept w w' (fun _ => False)) : p.Has w' xs := by
  refine ⟨h.1, ?_⟩
  rcases h.2 with h0 | ⟨k, off, h1, h2⟩
  · exact .inl h0
  · exact .inr ⟨k, off, h1, fun i hi => hk.cell (h2 i hi) (fun h => h)⟩

theorem Grown.alloc {wi wr : World} {E : TypeId} {p : Pc} {m : Value} {xs : List Value} (h : Grown wi wr E p m xs) (o : Obj) : Grown wi (wr.alloc o) E p m xs := by
  have hk : Kept wr (wr.alloc o) (fun _ => False) := (Kept.refl wr _).alloc o
  refine ⟨h.1.new hk, h.2.1, ?_⟩
  rcases h.2.2 with ⟨h1, h2, h3⟩ | h
  · exact .inl ⟨h1, h2, h3.kept hk⟩
  · refine .inr ⟨h.1, ?_⟩
    rcases h.2 with h | ⟨g, cap, cur, e, h1, h2, h3⟩
    · exact .inl h
    · exact .inr ⟨g, cap, cur, e, h1, hk.heap h2 (fun h => h), h3⟩

end Go.Proofs.YtiakjeomedijkaaGreatDoor
