/- Too many files? (lagoonlaw02.files.) -/
import Derived.Test.YtdhnbgeijfgfaaaGreatDoorReCJ
import Derived.Test.YtdhnbgeijfgfaaaGreatDoorReDJ
import Derived.Test.YtdhnbgeijfgfaaaGreatDoorShelfCJ
import Derived.Maps.AppendAt
namespace Go.Proofs.YtdhnbgeijfgfaaaGreatDoor
open Go.RowKit Go.Shelf
set_option maxRecDepth 8000

def flSz (o : FlK) : Nat := o.p.length + o.name.size
def flsSz : List FlK → Nat
  | [] => 0
  | o :: l => flSz o + flsSz l

theorem flsSz_append (a b : List FlK) : flsSz (a ++ b) = flsSz a + flsSz b := by
  induction a with
  | nil => simp [flsSz]
  | cons x l ih => simp [flsSz, ih]; omega

theorem flsSz_next {l : List FlK} {k : Nat} (h : k < l.length) : flsSz (l.take (k + 1)) = flsSz (l.take k) + flSz l[k] := by
  rw [List.take_succ_eq_append_getElem h, flsSz_append]; simp [flsSz]
theorem flsSz_mem {l : List FlK} {o : FlK} (h : o ∈ l) : flSz o ≤ flsSz l := by
  induction l with
  | nil => simp at h
  | cons x l ih =>
    rcases List.mem_cons.1 h with e | e
    · subst e; simp [flsSz]
    · have := ih e; simp [flsSz]; omega
theorem flsSz_take (l : List FlK) (k : Nat) : flsSz (l.take k) ≤ flsSz l := by
  have : flsSz (l.take k ++ l.drop k) = flsSz (l.take k) + flsSz (l.drop k) := flsSz_append _ _
  rw [List.take_append_drop] at this
  omega

def fbd (l : List FlK) : Bool := decide (2147483647 ≤ l.length + flsSz l)
theorem fbd_false {l : List FlK} (h : fbd l = false) : l.length < 2147483647 ∧ ∀ o ∈ l, o.p.length < 2147483647 := by
  have h1 := of_decide_eq_false h
  refine ⟨by omega, fun o ho => ?_⟩
  have := flsSz_mem ho
  unfold flSz at this
  omega

set_option maxHeartbeats 1000000 in
theorem files_any {w : World} {n : Nat} {v : Value} {l : List FlK} (h : SeesFls w n v l) (hll : l.length ≤ 140737488355328) :
    Calls Tryz.prog 5 #[v] w fun e w' => e = .returned (.bool (fbd l)) ∧ Below w.heap.size w w' := by
  obtain ⟨bb, hbb⟩ : ∃ bb, bb = fbd l := ⟨_, rfl⟩
  rw [← hbb]
  have HBB : Hid _ := hbb
  clear hbb
  obtain ⟨⟨a, c, rfl, h1, h2, h3⟩, h4⟩ := h
  unfold maxLen at h2
  have H3 : Hid _ := h3
  have H4 : Hid _ := h4
  clear h3 h4
  go_enter Tryz.func5, Tryz.ntmps5
  go_wp2_with fail
  go_loopw [3, 4] (fun vn vi wr => ∃ k : Nat, k ≤ l.length ∧ vi = .int .i64 k ∧ vn = .int .i64 (l.length + flsSz (l.take k) : Nat) ∧ Hid (l.length + flsSz (l.take k) ≤ 1000000000000000) ∧ Hid (∃ q, wr = w.drewN q)) (fun _ vi _ => l.length - (intOf vi).toNat)
  case atStart => exact ⟨0, Nat.zero_le _, rfl, by simp [flsSz], by show _ ≤ _; simp [flsSz]; omega, ⟨0, rfl⟩⟩
  case round =>
    obtain ⟨k, hk, rfl, rfl, HS, HW⟩ := hrel
    obtain ⟨q, rfl⟩ := HW.out
    obtain ⟨N, hN⟩ : ∃ N, N = l.length + flsSz (l.take k) := ⟨_, rfl⟩
    rw [← hN] at HS ⊢
    have hN1 := HS.out
    have HNN : Hid _ := hN
    clear hN HS
    by_cases hlt : k < l.length
    · have hd1 : decide ((k : Int) < (l.length : Int)) = true := decide_eq_true (by omega)
      by_cases hn2 : (N : Int) < 2147483647
      · have hd2 : decide ((N : Int) < 2147483647) = true := decide_eq_true hn2
        rcases H3.out with e | ⟨b, off, rfl, hb, hr⟩
        · rw [e] at hlt; simp at hlt
        · have hg := H4.out l[k] (List.getElem_mem hlt)
          have hrk := hr k hlt
          have c1 : w.cell? ⟨b, off + k * 3, none⟩ = some (.string l[k].name) := by
            have h7 := hrk 0 _ rfl
            exact h7
          have c3 : w.cell? ⟨b, off + k * 3 + 1, none⟩ = some (.slice l[k].pa l[k].p.length l[k].pc) := hrk 1 _ rfl
          have hs1 := hg.pl
          have hs3 := hg.nl
          have e1 := flsSz_next hlt
          unfold flSz at e1
          have HE : Hid _ := e1
          clear e1 hr hrk hg
          generalize l[k] = o at *
          go_wp2_with fail
          go_quiet (fail)
          have hww : (N : Int) + o.p.length + o.name.size = ((N + (o.p.length + o.name.size) : Nat) : Int) := by omega
          rw [hww]
          obtain ⟨M, hM⟩ : ∃ M, M = N + (o.p.length + o.name.size) := ⟨_, rfl⟩
          rw [← hM]
          have HM : Hid (M = l.length + flsSz (l.take (k + 1)) ∧ M ≤ 1000000000000000) := ⟨by rw [hM, HE.out, HNN.out]; omega, by omega⟩
          clear hM hww c1 c3 hs1 hs3 HE
          go_wp2_with fail
          go_roundw
          case rel => exact ⟨k + 1, by omega, by go_num, by rw [HM.out.1], by rw [← HM.out.1]; exact HM.out.2, ⟨_, rfl⟩⟩
          case measure => simp [intOf]; omega
      · have hd2 : decide ((N : Int) < 2147483647) = false := decide_eq_false hn2
        obtain rfl : bb = true := by
          rw [HBB.out]
          have := flsSz_take l k
          have := HNN.out
          exact decide_eq_true (by omega)
        go_wp2_with fail
        go_ret
        exact ⟨rfl, below_drewN (Below.refl _ _) _⟩
    · have hd1 : decide ((k : Int) < (l.length : Int)) = false := decide_eq_false (by omega)
      have hkl : k = l.length := by omega
      have hN2 : N = l.length + flsSz l := by rw [HNN.out, hkl, List.take_length]
      obtain rfl : bb = decide ((2147483647 : Int) ≤ (N : Int)) := by
        rw [HBB.out]
        unfold fbd
        rw [← hN2]
        congr 1
        apply propext
        omega
      clear hN2 hkl
      go_wp2_with fail
      go_ret
      exact ⟨rfl, below_drewN (Below.refl _ _) _⟩
end Go.Proofs.YtdhnbgeijfgfaaaGreatDoor

/- DiskFrom, walked. -/
namespace Go.Proofs.YtdhnbgeijfgfaaaGreatDoor
open Go.RowKit Go.Shelf
set_option maxRecDepth 8000

theorem from_bad (room : Int) (v : Value) (w : World) (hq : ¬ (0 ≤ room ∧ room ≤ 16777216)) : Calls Tryz.prog 7 #[.int .i64 room, v] w fun e w' => e = .returned (.tuple #[.pointer none, .int .i64 1]) ∧ w' = w := by
  by_cases h0 : room < 0
  · have h1 : decide (room < 0) = true := decide_eq_true h0
    go_enter Tryz.func7, Tryz.ntmps7
    go_wp2_with fail
    go_ret2
    exact ⟨rfl, rfl⟩
  · have h1 : decide (room < 0) = false := decide_eq_false h0
    have h2 : decide (room > 16777216) = true := decide_eq_true (by omega)
    go_enter Tryz.func7, Tryz.ntmps7
    go_wp2_with fail
    go_ret2
    exact ⟨rfl, rfl⟩

theorem refFrom_bad (room : Int) (v : Value) (w : World) (hq : ¬ (0 ≤ room ∧ room ≤ 16777216)) : Calls Tryz.prog 8 #[.int .i64 room, v] w fun e w' => e = .returned (.tuple #[.pointer none, .int .i64 1]) ∧ w' = w := by
  have HN : Hid _ := refNew_no room w hq
  go_enter Tryz.func8, Tryz.ntmps8
  go_wp2_with fail
  refine Calls.mono HN.out ?_
  rintro e w1 ⟨rfl, hw1⟩
  subst w1
  go_wp2_with fail
  go_ret2
  exact ⟨rfl, rfl⟩

theorem SeesFls.kept {w w' : World} {S : Nat → Prop} {n : Nat} {v : Value} {l : List FlK} (h : SeesFls w n v l) (hk : Kept w w' S) (hS : ∀ k, k < n → ¬ S k) : SeesFls w' n v l := by
  obtain ⟨⟨a, c, rfl, h1, h2, h3⟩, h4⟩ := h
  refine ⟨⟨a, c, rfl, h1, h2, ?_⟩, fun o ho => (h4 o ho).kept hk hS⟩
  rcases h3 with h3 | ⟨b, off, rfl, hb, h3⟩
  · exact .inl h3
  · refine .inr ⟨b, off, rfl, hb, fun i hi j x hj => ?_⟩
    have hc := h3 i hi j x hj
    rw [World.cell?_of_block (hk.block b (World.block_lt_of_cell? w ⟨b, off + i * 3 + j, none⟩ hc) (hS b hb))]
    exact hc

theorem SeesFls.mono {w : World} {n n' : Nat} {v : Value} {l : List FlK} (h : SeesFls w n v l) (hn : n ≤ n') : SeesFls w n' v l := by
  obtain ⟨⟨a, c, rfl, h1, h2, h3⟩, h4⟩ := h
  refine ⟨⟨a, c, rfl, h1, h2, ?_⟩, fun o ho => ⟨(h4 o ho).see, (h4 o ho).pl, (h4 o ho).nl, fun hy k e => Nat.lt_of_lt_of_le ((h4 o ho).pb hy k e) hn, (h4 o ho).d0, (h4 o ho).d1⟩⟩
  rcases h3 with h3 | ⟨b, off, rfl, hb, h3⟩
  · exact .inl h3
  · exact .inr ⟨b, off, rfl, by omega, h3⟩

/-- From of both: a disk each, alike. -/
theorem takeL_files (D : DkD) (fs : List FiD) : (takeL D fs).2.room = D.room ∧ (takeL D fs).2.on = D.on ∧ (takeL D fs).2.armed = D.armed ∧ (takeL D fs).2.writes = D.writes := by
  induction fs generalizing D with
  | nil => exact ⟨rfl, rfl, rfl, rfl⟩
  | cons f fs ih =>
    unfold takeL
    split
    · exact ih _
    · exact ⟨rfl, rfl, rfl, rfl⟩

theorem both_from {w w2 w3 w4 : World} {p q : Nat} {room : Int} {fs : List FiD} {fv rv : Value} {ms : List FiM} {vs : List Value} (hb : Below w.heap.size w w2) (hr : Run w2 p w3 fv ms (takeL (newD room) fs).2 0) (hs : RunR w3 q w4 rv vs (rdOf (takeL (newD room) fs).2 room)) : Both w w4 p q (takeL (newD room) fs).2 (rdOf (takeL (newD room) fs).2 room) 0 := by
  obtain ⟨e1, e2, e3, e4⟩ := takeL_files (newD room) fs
  have s1 := hb.size
  have s2 := hr.bel.size
  refine ⟨⟨fv, ms, rv, vs, hr.is.later hs.bel, hs.is, fun j hj hm => ?_, fun j hj => ?_, fun j hj => ?_⟩, hr.ok, (fun e => by rw [e2] at e; cases e), ⟨rfl, e1.symm, e2.symm, e4.symm, .inl ⟨rfl, e3⟩⟩, by show (0 : Int) ≤ 9223372036854775807; decide, hr.writes, Below.step hb (Below.step hr.bel hs.bel)⟩
  · have h1 := hr.is.lt hj
    have h2 := hs.apart j hm
    omega
  · have := hr.apart j hj
    omega
  · have := hs.apart j hj
    omega

end Go.Proofs.YtdhnbgeijfgfaaaGreatDoor
/- Lists in memory, their room, and what stays when some cells are written over; no Go function is walked here. -/
namespace Go.Proofs.YtdhnbgeijfgfaaaGreatDoor
open Go.RowKit
set_option maxRecDepth 8000

/-- All cells but those of S are in w' as they were; no block is gone, or has another length. -/
structure Turned (w w' : World) (S : Nat → Nat → Prop) : Prop where
  os : w'.os = w.os
  tape : w'.tape = w.tape
  output : w'.output = w.output
  size : w.heap.size ≤ w'.heap.size
  same : ∀ k, k < w.heap.size → (∀ i, ¬ S k i) → w'.heap[k]? = w.heap[k]?
  row : ∀ k cs t fr, w.heap[k]? = some (.cells cs t fr) → ∃ cs', w'.heap[k]? = some (.cells cs' t fr) ∧ cs'.size = cs.size ∧ ∀ i, ¬ S k i → cs'[i]? = cs[i]?

section
variable {a b c w w' : World} {S S' : Nat → Nat → Prop}

theorem Turned.refl (w : World) (S : Nat → Nat → Prop) : Turned w w S := ⟨rfl, rfl, rfl, Nat.le_refl _, fun _ _ _ => rfl, fun _ cs _ _ h => ⟨cs, h, rfl, fun _ _ => rfl⟩⟩

theorem Turned.mono (h : Turned w w' S) (hS : ∀ k i, k < w.heap.size → S k i → S' k i) : Turned w w' S' :=
  ⟨h.os, h.tape, h.output, h.size, fun k hk hn => h.same k hk fun i hs => hn i (hS k i hk hs), fun k cs t fr hr => by
    obtain ⟨cs', h1, h2, h3⟩ := h.row k cs t fr hr
    exact ⟨cs', h1, h2, fun i hn => h3 i fun hs => hn (hS k i (lt_of_block hr) hs)⟩⟩

theorem Turned.trans (h : Turned a b S) (g : Turned b c S') (hS : ∀ k i, k < a.heap.size → S' k i → S k i) : Turned a c S :=
  ⟨g.os.trans h.os, g.tape.trans h.tape, g.output.trans h.output, Nat.le_trans h.size g.size,
    fun k hk hn => (g.same k (Nat.lt_of_lt_of_le hk h.size) fun i hs => hn i (hS k i hk hs)).trans (h.same k hk hn), fun k cs t fr hr => by
    obtain ⟨c1, h1, h2, h3⟩ := h.row k cs t fr hr
    obtain ⟨c2, k1, k2, k3⟩ := g.row k c1 t fr h1
    exact ⟨c2, k1, k2.trans h2, fun i hn => (k3 i fun hs => hn (hS k i (lt_of_block hr) hs)).trans (h3 i hn)⟩⟩

theorem Turned.of_kept (h : Kept w w' (fun _ => False)) (S : Nat → Nat → Prop) : Turned w w' S :=
  ⟨h.os, h.tape, h.output, h.size, fun k hk _ => h.block k hk (fun h => h), fun _ cs _ _ hr => ⟨cs, h.heap hr (fun h => h), rfl, fun _ _ => rfl⟩⟩

theorem Turned.new (h : Turned a w S) (hk : Kept w w' (fun _ => False)) : Turned a w' S := h.trans (Turned.of_kept hk (fun _ _ => False)) (fun _ _ _ h => h.elim)
theorem Turned.alloc (h : Turned a w S) (o : Obj) : Turned a (w.alloc o) S := h.new ((Kept.refl w _).alloc o)

/-- A block that was not there at the start may be written over at will. -/
theorem Turned.own (h : Turned a w S) {B : Nat} (hB : a.heap.size ≤ B) (hk : Kept w w' (fun k => B ≤ k)) : Turned a w' S :=
  ⟨hk.os.trans h.os, hk.tape.trans h.tape, hk.output.trans h.output, Nat.le_trans h.size hk.size,
    fun k hk' hn => (hk.block k (Nat.lt_of_lt_of_le hk' h.size) (by omega)).trans (h.same k hk' hn), fun k cs t fr hr => by
    obtain ⟨c1, h1, h2, h3⟩ := h.row k cs t fr hr
    have := lt_of_block hr
    exact ⟨c1, hk.heap h1 (by omega), h2, h3⟩⟩

theorem Turned.setCell (h : Turned a w S) {k i : Nat} (v : Value) (hS : k < a.heap.size → S k i) : Turned a (w.setCell ⟨k, i, none⟩ v) S := by
  refine ⟨h.os, h.tape, h.output, ?_, fun j hj hn => ?_, fun j cs t fr hr => ?_⟩
  · have : (w.setCell ⟨k, i, none⟩ v).heap.size = w.heap.size := by simp [World.setCell]
    rw [this]; exact h.size
  · rw [Below.heap_setCell _ _ _ _ (fun e => by have e' : j = k := e; subst e'; exact hn i (hS hj))]
    exact h.same j hj hn
  · obtain ⟨c1, h1, h2, h3⟩ := h.row j cs t fr hr
    by_cases e : j = k
    · subst e
      refine ⟨c1.setIfInBounds i v, ?_, by rw [Array.size_setIfInBounds]; exact h2, fun x hx => ?_⟩
      · rw [setCell_eq_setRow w j i c1 t fr v h1]; exact setRow_heap w j c1 _ t fr h1
      · rw [Array.getElem?_setIfInBounds_ne (fun e => hx (by subst e; exact hS (lt_of_block hr)))]
        exact h3 x hx
    · exact ⟨c1, by rw [Below.heap_setCell _ _ _ _ e]; exact h1, h2, h3⟩

theorem cell_row {k i : Nat} {v : Value} (h : w.cell? ⟨k, i, none⟩ = some v) : ∃ cs t fr, w.heap[k]? = some (.cells cs t fr) ∧ cs[i]? = some v := by
  unfold World.cell? at h
  split at h
  · rename_i cs t fr hr
    exact ⟨cs, t, fr, hr, by simpa using h⟩
  · simp at h

theorem Turned.cell (h : Turned w w' S) {k i : Nat} {v : Value} (hc : w.cell? ⟨k, i, none⟩ = some v) (hn : ¬ S k i) : w'.cell? ⟨k, i, none⟩ = some v := by
  obtain ⟨cs, t, fr, hr, hi⟩ := cell_row hc
  obtain ⟨cs', h1, _, h3⟩ := h.row k cs t fr hr
  rw [cell_of_row w' k i cs' t fr h1, h3 i hn, hi]

theorem Turned.below (h : Turned w w' S) {B : Nat} (hB : B ≤ w.heap.size) (hS : ∀ k i, S k i → B ≤ k) : Below B w w' :=
  ⟨h.os, h.tape, h.output, h.size, fun k hk => h.same k (by omega) fun i hs => by have := hS k i hs; omega⟩

end

/-- A list: where it lies, its length, its room. -/
structure Pc where
  ao : Option Addr
  n : Nat
  cap : Nat

def Pc.val (p : Pc) : Value := .slice p.ao p.n p.cap
/-- The cells of a list's room; of its spare room. -/
def Pc.foot (p : Pc) (k i : Nat) : Prop := ∃ off, p.ao = some ⟨k, off, none⟩ ∧ off ≤ i ∧ i < off + p.cap
def Pc.spare (p : Pc) (k i : Nat) : Prop := ∃ off, p.ao = some ⟨k, off, none⟩ ∧ off + p.n ≤ i ∧ i < off + p.cap

/-- A list lies in a row of elements of type E, all of its room. -/
structure Lies (w : World) (E : TypeId) (p : Pc) : Prop where
  le : p.n ≤ p.cap
  most : p.cap ≤ maxLen
  nil : p.ao = none → p.cap = 0
  at' : 0 < p.cap → ∃ k off cs, p.ao = some ⟨k, off, none⟩ ∧ w.heap[k]? = some (.cells cs E (0, 0)) ∧ off + p.cap ≤ cs.size

/-- The elements of a list. -/
def Pc.Has (w : World) (p : Pc) (xs : List Value) : Prop := xs.length = p.n ∧ (xs = [] ∨ ∃ k off, p.ao = some ⟨k, off, none⟩ ∧ ∀ i (h : i < xs.length), w.cell? ⟨k, off + i, none⟩ = some xs[i])

section
variable {w w' : World} {S : Nat → Nat → Prop} {E : TypeId} {p q : Pc} {xs : List Value}

theorem Lies.turned (h : Lies w E p) (ht : Turned w w' S) : Lies w' E p :=
  ⟨h.le, h.most, h.nil, fun h0 => by
    obtain ⟨k, off, cs, h1, h2, h3⟩ := h.at' h0
    obtain ⟨cs', k1, k2, _⟩ := ht.row k cs E (0, 0) h2
    exact ⟨k, off, cs', h1, k1, by omega⟩⟩

theorem Pc.Has.turned (h : p.Has w xs) (ht : Turned w w' S) (hn : ∀ k i, p.foot k i → p.spare k i ∨ ¬ S k i) (hc : p.n ≤ p.cap) : p.Has w' xs := by
  refine ⟨h.1, ?_⟩
  rcases h.2 with h0 | ⟨k, off, h1, h2⟩
  · exact .inl h0
  · refine .inr ⟨k, off, h1, fun i hi => ht.cell (h2 i hi) ?_⟩
    have hl := h.1
    rcases hn k (off + i) ⟨off, h1, by omega, by omega⟩ with ⟨off', e, h3, _⟩ | hn
    · rw [h1] at e; simp at e; all_goals omega
    · exact hn

theorem Pc.spare_foot {k i : Nat} (h : p.spare k i) : p.foot k i := by
  obtain ⟨off, h1, h2, h3⟩ := h
  exact ⟨off, h1, by omega, h3⟩

theorem Lies.foot_lt (h : Lies w E p) {k i : Nat} (hf : p.foot k i) : k < w.heap.size ∧ ∃ cs, w.heap[k]? = some (.cells cs E (0, 0)) := by
  obtain ⟨off, h1, h2, h3⟩ := hf
  obtain ⟨k', off', cs, k1, k2, k3⟩ := h.at' (by omega)
  rw [h1] at k1
  simp at k1
  obtain ⟨rfl, rfl⟩ := k1
  exact ⟨lt_of_block k2, cs, k2⟩

/-- Lists of a call's own make. -/
theorem own_has {base : Nat} {v : Value} (h : w.ownsRow base E 1 v xs.length xs) : ∃ p : Pc, v = p.val ∧ p.n = xs.length ∧ p.Has w xs ∧ Lies w E p ∧ ∀ k i, p.foot k i → base ≤ k := by
  rcases h.2 with ⟨rfl, h0⟩ | ⟨g, cap, cur, rfl, hb, hg, h1, h2, h3, h4⟩
  · have hx : xs = [] := List.eq_nil_of_length_eq_zero h0
    subst hx
    exact ⟨⟨none, 0, 0⟩, rfl, rfl, ⟨rfl, .inl rfl⟩, ⟨Nat.le_refl _, Nat.zero_le _, fun _ => rfl, fun h => by simp at h⟩, fun k i ⟨off, e, _⟩ => by simp at e⟩
  · refine ⟨⟨some ⟨g, 0, none⟩, xs.length, cap⟩, rfl, rfl, ⟨rfl, .inr ⟨g, 0, rfl, fun i hi => ?_⟩⟩, ⟨h1, h2, fun e => by simp at e, fun _ => ⟨g, 0, cur, rfl, hg, by simp at h3 ⊢; omega⟩⟩, fun k i ⟨off, e, _⟩ => by simp at e; omega⟩
    rw [Nat.zero_add, cell_of_row w g i cur E (0, 0) hg]
    have e : cur.toList.take xs.length = xs := by simpa using h4
    have e2 : (cur.toList.take xs.length)[i]? = some xs[i] := by rw [e]; exact List.getElem?_eq_getElem hi
    rw [List.getElem?_take, if_pos hi, Array.getElem?_toList] at e2
    exact e2

end

/-- A list that is grown: the room of p is filled, or there is a new row. -/
def Grown (wi wr : World) (E : TypeId) (p : Pc) (m : Value) (xs : List Value) : Prop :=
  Turned wi wr p.spare ∧ p.n ≤ xs.length ∧ ((m = (⟨p.ao, xs.length, p.cap⟩ : Pc).val ∧ xs.length ≤ p.cap ∧ (⟨p.ao, xs.length, p.cap⟩ : Pc).Has wr xs) ∨ wr.ownsRow wi.heap.size E 1 m xs.length xs)

theorem Grown.start {w : World} {E : TypeId} {p : Pc} {xs : List Value} (h : p.Has w xs) (hl : Lies w E p) : Grown w w E p p.val xs := by
  obtain ⟨ao, n, cap⟩ := p
  have e : xs.length = n := h.1
  subst e
  exact ⟨Turned.refl _ _, Nat.le_refl _, .inl ⟨rfl, hl.le, h⟩⟩

theorem Pc.Has.kept {w w' : World} {p : Pc} {xs : List Value} (h : p.Has w xs) (hk : Kept w w' (fun _ => False)) : p.Has w' xs := by
  refine ⟨h.1, ?_⟩
  rcases h.2 with h0 | ⟨k, off, h1, h2⟩
  · exact .inl h0
  · exact .inr ⟨k, off, h1, fun i hi => hk.cell (h2 i hi) (fun h => h)⟩

theorem Grown.alloc {wi wr : World} {E : TypeId} {p : Pc} {m : Value} {xs : List Value} (h : Grown wi wr E p m xs) (o : Obj) : Grown wi (wr.alloc o) E p m xs := by
  have hk : Kept wr (wr.alloc o) (fun _ => False) := (Kept.refl wr _).alloc o
  refine ⟨h.1.new hk, h.2.1, ?_⟩
  rcases h.2.2 with ⟨h1, h2, h3⟩ | h
  · exact .inl ⟨h1, h2, h3.kept hk⟩
  · refine .inr ⟨h.1, ?_⟩
    rcases h.2 with h | ⟨g, cap, cur, e, h1, h2, h3⟩
    · exact .inl h
    · exact .inr ⟨g, cap, cur, e, h1, hk.heap h2 (fun h => h), h3⟩

end Go.Proofs.YtdhnbgeijfgfaaaGreatDoor
