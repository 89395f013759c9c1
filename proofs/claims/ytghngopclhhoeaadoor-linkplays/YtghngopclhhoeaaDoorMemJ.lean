/- What CopyBytes of lagoonref00 answers: the same bytes in a row of its own. -/
import Derived.Test.YtghngopclhhoeaaDoorProg
import Derived.Test.YtghngopclhhoeaaDoorBaseJ
import Derived.ArgAppend
import Derived.OneCell
namespace Go.Proofs.YtghngopclhhoeaaDoor
open Go.RowKit
set_option maxRecDepth 8000

theorem Tryd.infoByte : (Tryd.prog.info? 5).map (fun i => (i.zero, i.size, i.bytes)) = some (some (.int .u8 0), 1, 1) := by kernel_rfl

/-- One round of an append of one byte: what is owned, and that old memory stays. -/
theorem app_rel {B : Nat} {w wr w1 : World} {v v' : Value} {xs : List Int} {x : Int} (hBw : B ≤ wr.heap.size) (hown : Owns wr B v xs) (hbel : Below B w wr) {o : Obj}
    (hown' : w1.ownsRow B 5 1 v' (xs.length + 1) (xs.map (Value.int .u8) ++ [.int .u8 x])) (hgrow : (wr.alloc o).grownBy w1 v.ownBlock) :
    Owns w1 B v' (xs ++ [x]) ∧ Below B w w1 ∧ B ≤ w1.heap.size := by
  refine ⟨by simpa [Owns] using hown', ?_, ?_⟩
  · exact ((hbel.alloc hBw o).grown hgrow (by simp; omega) (fun k hk => (hown.lt k hk).1))
  · have := hgrow.size; simp at this; omega

set_option maxHeartbeats 400000 in
theorem copyBytes_any (v : Value) (xs : List Int) (w : World) (h : Sees w v xs) (hreach : xs.length ≤ 70000000000000) :
    Calls Tryd.prog 55 #[v] w fun e w' => ∃ v', e = .returned v' ∧ Owns w' w.heap.size v' xs ∧ Below w.heap.size w w' := by
  obtain ⟨ao, cap, rfl, hlc, hcm, _, h3⟩ := h
  unfold maxLen at hcm
  obtain ⟨i0, hi, hz0, hz1, hz2⟩ := info_parts Tryd.infoByte
  go_enter Tryd.func55, Tryd.ntmps55
  go_wp2
  go_loopw [3, 4] (fun v i wr => ∃ k : Nat, k ≤ xs.length ∧ i = .int .i64 k ∧ Owns wr w.heap.size v (xs.take k) ∧ Below w.heap.size w wr) (fun _ i _ => xs.length - (intOf i).toNat)
  case atStart => exact ⟨0, Nat.zero_le _, rfl, World.ownsRow_nil _ _ _ _, Below.refl _ _⟩
  case round =>
    obtain ⟨k, hk, rfl, hown, hbel⟩ := hrel
    by_cases hlt : k < xs.length
    · rcases h3 with h3 | ⟨b, off, rfl, h3⟩
      · subst h3; simp at hlt
      · have hc := cell_later (h3 k hlt) hbel (Nat.le_refl _)
        have HN : Hid _ := take_next xs k hlt
        have hlen : (xs.take k).length = k := by simp; omega
        have HL : Hid _ := hlen
        clear hlen h3
        generalize xs.getD k 0 = x at *
        generalize xs.take k = ys at *
        have hsz := hbel.size
        go_wp2_with (at_builtin; refine wpList_append_own _ rfl _ _ 39 rfl w.heap.size 5 i0 (.int .u8 0) 1 1 Tryd.underlying39 hi hz0 hz1 hz2 rfl (by decide) _ _ _ rfl (hown.alloc _) ⟨wr.heap.size, 0, none⟩ 1 1 [.int .u8 x] rfl rfl ?c1 ?c2 ?c3 ?c4 ?c5 ?_)
        case c1 =>
          intro j u hj
          match j, hj with
          | 0, hj => simp at hj; subst hj; simp [Addr.add]
        case c2 => intro u hu; simp at hu; subst hu; rfl
        case c3 => have := HL.out; unfold maxLen; omega
        case c4 => have := HL.out; omega
        case c5 => simp; omega
        intro v' w1 hown' hgrow _
        have R := app_rel hsz hown hbel hown' hgrow
        clear hown' hgrow hown hc
        go_wp2
        go_roundw
        case rel => exact ⟨k + 1, by omega, by go_num, by rw [HN.out]; exact R.1, R.2.1⟩
        case measure => simp [intOf]; omega
    · obtain rfl : k = xs.length := by omega
      rw [List.take_length] at hown
      go_wp2
      go_ret
      exact ⟨_, rfl, hown, hbel⟩

theorem made_owns {w : World} {g n : Nat} (h : w.ownsRow g 5 1 (.slice (some ⟨g, 0, none⟩) n n) n (madeCells #[Value.int .u8 0] n).toList) : Owns w g (.slice (some ⟨g, 0, none⟩) (List.replicate n (0 : Int)).length n) (List.replicate n 0) := by
  have e : (madeCells #[Value.int .u8 0] n).toList = (List.replicate n (0 : Int)).map (Value.int .u8) := by
    rw [toList_madeCells_one]; simp
  rw [e] at h
  simpa [Owns] using h

end Go.Proofs.YtghngopclhhoeaaDoor

/- What stays when a call changes some blocks of memory, an append of bytes onto a row that the call owns, and what a Writer and a Reader of package pack are in memory; no Go function is walked here. -/
namespace Go.Proofs.YtghngopclhhoeaaDoor
open Go.RowKit
set_option maxRecDepth 8000

/-- All blocks of w but those of S are in w' as they were. -/
structure Kept (w w' : World) (S : Nat → Prop) : Prop where
  os : w'.os = w.os
  tape : w'.tape = w.tape
  output : w'.output = w.output
  size : w.heap.size ≤ w'.heap.size
  block : ∀ k, k < w.heap.size → ¬ S k → w'.heap[k]? = w.heap[k]?

theorem Kept.refl (w : World) (S : Nat → Prop) : Kept w w S := ⟨rfl, rfl, rfl, Nat.le_refl _, fun _ _ _ => rfl⟩
theorem Kept.mono {w w' : World} {S S' : Nat → Prop} (h : Kept w w' S) (hS : ∀ k, k < w.heap.size → S k → S' k) : Kept w w' S' :=
  ⟨h.os, h.tape, h.output, h.size, fun k hk hn => h.block k hk fun hs => hn (hS k hk hs)⟩
theorem Kept.trans {a b c : World} {S S' : Nat → Prop} (h : Kept a b S) (g : Kept b c S') (hS : ∀ k, k < a.heap.size → S' k → S k) : Kept a c S :=
  ⟨g.os.trans h.os, g.tape.trans h.tape, g.output.trans h.output, Nat.le_trans h.size g.size, fun k hk hn =>
    (g.block k (Nat.lt_of_lt_of_le hk h.size) fun hs => hn (hS k hk hs)).trans (h.block k hk hn)⟩
theorem Kept.alloc {a w : World} {S : Nat → Prop} (h : Kept a w S) (o : Obj) : Kept a (w.alloc o) S :=
  h.trans (S' := fun _ => False) ⟨rfl, rfl, rfl, by simp, fun k hk _ => Below.heap_alloc _ _ _ hk⟩ (fun _ _ h => h.elim)
theorem Kept.drewN {a w : World} {S : Nat → Prop} (h : Kept a w S) (n : Nat) : Kept a (w.drewN n) S := ⟨h.os, h.tape, h.output, h.size, h.block⟩
theorem Kept.setCell {a w : World} {S : Nat → Prop} (h : Kept a w S) (p : Addr) (u : Value) (hS : p.block < a.heap.size → S p.block) : Kept a (w.setCell p u) S :=
  h.trans (S' := fun k => k = p.block) ⟨rfl, rfl, rfl, by simp [World.setCell], fun k _ hn => Below.heap_setCell _ _ _ _ hn⟩ (fun k hk e => by subst e; exact hS hk)
theorem Kept.below {w w' : World} {S : Nat → Prop} {B : Nat} (h : Kept w w' S) (hB : B ≤ w.heap.size) (hS : ∀ k, S k → B ≤ k) : Below B w w' :=
  ⟨h.os, h.tape, h.output, h.size, fun k hk => h.block k (by omega) fun hs => by have := hS k hs; omega⟩
theorem Below.kept {w w' : World} {B : Nat} (h : Below B w w') : Kept w w' (fun k => B ≤ k) := ⟨h.os, h.tape, h.output, h.size, fun k _ hn => h.block k (by omega)⟩
theorem Kept.cell {w w' : World} {S : Nat → Prop} (h : Kept w w' S) {p : Addr} {u : Value} (hc : w.cell? p = some u) (hn : ¬ S p.block) : w'.cell? p = some u :=
  (World.cell?_of_block (h.block p.block (World.block_lt_of_cell? w p hc) hn)).trans hc
theorem Kept.heap {w w' : World} {S : Nat → Prop} (h : Kept w w' S) {k : Nat} {o : Obj} (hc : w.heap[k]? = some o) (hn : ¬ S k) : w'.heap[k]? = some o :=
  (h.block k (lt_of_block hc) hn).trans hc

theorem Sees.kept {w w' : World} {S : Nat → Prop} {v : Value} {xs : List Int} (h : Sees w v xs) (hk : Kept w w' S) (hn : ∀ k, v.ownBlock = some k → ¬ S k) : Sees w' v xs := by
  obtain ⟨ao, cap, rfl, h1, h2, h0, h3⟩ := h
  refine ⟨ao, cap, rfl, h1, h2, h0, ?_⟩
  rcases h3 with h3 | ⟨b, off, rfl, h3⟩
  · exact .inl h3
  · exact .inr ⟨b, off, rfl, fun i hi => hk.cell (h3 i hi) (hn b rfl)⟩

theorem Owns.kept {w w' : World} {S : Nat → Prop} {base : Nat} {v : Value} {xs : List Int} (h : Owns w base v xs) (hk : Kept w w' S) (hn : ∀ k, v.ownBlock = some k → ¬ S k) : Owns w' base v xs := by
  refine ⟨h.1, ?_⟩
  rcases h.2 with h | ⟨g, cap, cur, rfl, h1, h2, h3⟩
  · exact .inl h
  · exact .inr ⟨g, cap, cur, rfl, h1, hk.heap h2 (hn g rfl), h3⟩

/-- The row of v' is that of v, or a new one. -/
def NewRow (w : World) (v v' : Value) : Prop := v'.ownBlock = v.ownBlock ∨ ∃ k, v'.ownBlock = some k ∧ w.heap.size ≤ k

theorem news_at {w : World} {b off : Nat} {ys : List Int} (h : ∀ i, i < ys.length → w.cell? ⟨b, off + i, none⟩ = some (.int .u8 (ys.getD i 0))) :
    ∀ j u, (ys.map (Value.int .u8))[j]? = some u → w.cell? ((⟨b, off, none⟩ : Addr).add j) = some u := by
  intro j u hj
  rw [List.getElem?_map] at hj
  by_cases hl : j < ys.length
  · rw [List.getElem?_eq_getElem hl] at hj
    have := h j hl
    rw [List.getD_eq_getElem?_getD, List.getElem?_eq_getElem hl] at this
    simp at hj this
    subst hj
    by_cases h0 : j = 0
    · subst h0; simpa [Addr.add] using this
    · simpa [Addr.add, h0] using this
  · rw [List.getElem?_eq_none (by omega)] at hj; simp at hj

theorem sees_prefix {w : World} {base g cap n : Nat} {zs : List Int} (h : Owns w base (.slice (some ⟨g, 0, none⟩) zs.length cap) zs) (hn : n ≤ zs.length) : Sees w (.slice (some ⟨g, 0, none⟩) n cap) (zs.take n) := by
  have hl : (zs.take n).length = n := by simp; omega
  obtain ⟨ao, c, e, g1, g2, g0, g3⟩ := Sees.own h
  simp at e
  obtain ⟨rfl, rfl⟩ := e
  refine ⟨_, cap, by rw [hl], by omega, g2, fun e => by simp at e, ?_⟩
  rcases g3 with g3 | ⟨b, off, e, g3⟩
  · exact .inl (by rw [g3]; simp)
  · refine .inr ⟨b, off, e, fun i hi => ?_⟩
    rw [g3 i (by omega)]
    have hi' : i < n := by omega
    simp [List.getD_eq_getElem?_getD, hi']

end Go.Proofs.YtghngopclhhoeaaDoor
