/- LinkPlays' does: what stands while a message is taken. -/
import Derived.Test.YtghngopclhhoeaaDoorLpQJ
import Derived.Test.YtghngopclhhoeaaDoorLkNJ
namespace Go.Proofs.YtghngopclhhoeaaDoor
open Go.RowKit
set_option maxRecDepth 8000
set_option linter.unusedSimpArgs false
set_option linter.unusedVariables false

/-- The message that is none. -/
def zeroM : MsG := ⟨0, 0, .slice none 0 0, [], false⟩
abbrev zcM : Array Value := #[.int .i8 0, .int .i8 0, .slice none 0 0, .bool false]
theorem zeroM_own (w : World) (b : Nat) : Owns w b zeroM.v zeroM.bs := World.ownsRow_nil _ _ _ _

structure TkQ (W0 V : World) (own0 own : Nat → Nat) (p : Nat) (R : PlR) (bx : Nat) (on f t : Int) (bv : Value) (pl k xx : Int) (y y2 : MsG) : Prop where
  pq : Pq V own p R
  st : Stp W0 V own0 own p
  bo : BoxQ V bx 2 on f t bv pl k xx
  bo' : own bx / 10 ≠ p
  yo : Owns V 0 y.v y.bs
  yc : ∀ g, y.v.ownBlock = some g → own g = 10 * p + 7
  yl : y.bs.length ≤ 8192
  y2o : Owns V 0 y2.v y2.bs
  y2c : ∀ g, y2.v.ownBlock = some g → own g = 10 * p + 6

section
variable {W0 V V' : World} {own0 own : Nat → Nat} {p : Nat} {R : PlR} {bx : Nat} {on f t : Int} {bv : Value} {pl k xx : Int} {y y2 : MsG}

theorem TkQ.bx' (h : TkQ W0 V own0 own p R bx on f t bv pl k xx y y2) : BxQ V R bx f t bv pl k xx := BxQ.of h.pq h.bo

/-- New memory. -/
theorem TkQ.new (h : TkQ W0 V own0 own p R bx on f t bv pl k xx y y2) (hk : Kept V V' (fun _ => False)) : TkQ W0 V' own0 own p R bx on f t bv pl k xx y y2 :=
  ⟨h.pq.new hk, h.st.trans (Stp.new hk), hk.heap h.bo id, h.bo', Owns.kept h.yo hk (fun _ _ => id), h.yc, h.yl, Owns.kept h.y2o hk (fun _ _ => id), h.y2c⟩

/-- New memory that is nobody's. -/
theorem TkQ.up (hp : p ≤ 1) (h : TkQ W0 V own0 own p R bx on f t bv pl k xx y y2) (hk : Kept V V' (fun _ => False)) : TkQ W0 V' own0 (upQ own V.heap.size 999) p R bx on f t bv pl k xx y y2 :=
  ⟨h.pq.keep hk (fun _ _ e => e.elim) (fun k hl _ => upQ_old hl), h.st.trans ⟨hk.mono (fun _ _ e => e.elim), fun k hl _ => upQ_old hl⟩, hk.heap h.bo id, by rw [upQ_old (lt_of_block h.bo)]; exact h.bo', Owns.kept h.yo hk (fun _ _ => id), fun g e => by rw [upQ_old (h.yo.lt g e).2]; exact h.yc g e, h.yl, Owns.kept h.y2o hk (fun _ _ => id), fun g e => by rw [upQ_old (h.y2o.lt g e).2]; exact h.y2c g e⟩

/-- A block that is nobody's, made behind W0, may turn. -/
theorem TkQ.box {b : Nat} (h : TkQ W0 V own0 own p R bx on f t bv pl k xx y y2) (hk : Kept V V' (fun k => k = b)) (hb : own b / 10 ≠ p) (hn : W0.heap.size ≤ b) (hbx : b ≠ bx) : TkQ W0 V' own0 own p R bx on f t bv pl k xx y y2 :=
  ⟨h.pq.keep hk (fun k _ e => .inl (by rw [e]; exact hb)) (fun _ _ _ => rfl), ⟨h.st.kept.trans hk (fun k hl e => by omega), h.st.old⟩, hk.heap h.bo (fun e => hbx e.symm), h.bo', Owns.kept h.yo hk (fun g e e2 => by have := h.yc g e; rw [e2] at this; omega), h.yc, h.yl, Owns.kept h.y2o hk (fun g e e2 => by have := h.y2c g e; rw [e2] at this; omega), h.y2c⟩

/-- The program's Take. -/
theorem TkQ.tak (h : TkQ W0 V own0 own p R bx on f t bv pl k xx zeroM zeroM) (hl : R.l.length ≤ 99999999) : Calls Tryd.prog 13 #[.pointer (some ⟨R.N, 0, none⟩), .int .i64 pl] V fun e w' => ∃ er own' v' l' y, e = .returned (.tuple #[.agg y.cells.toArray, .int .i64 er]) ∧ TkQ W0 w' own0 own' p { R with v := v', l := l' } bx on f t bv pl k xx y zeroM ∧ Stp V w' own own' p ∧
    ((er = 220 ∧ l' = R.l ∧ y = zeroM ∧ (pl < 0 ∨ (R.l.length : Int) ≤ pl)) ∨ ∃ (A B : List MsD) (x : MsD), pl = (A.length : Int) ∧ R.l = A ++ x :: B ∧ l' = A ++ B ∧ y = x.gd ∧ er = 0) := by
  by_cases hp : pl < 0 ∨ (R.l.length : Int) ≤ pl
  · refine (take_no h.pq.nt pl hp).mono ?_
    rintro e w' ⟨rfl, hb⟩
    exact ⟨220, own, R.v, R.l, zeroM, rfl, h.new (bel_keptQ hb), Stp.new (bel_keptQ hb), .inl ⟨rfl, rfl, rfl, hp⟩⟩
  · obtain ⟨q, hq⟩ : ∃ q : Nat, pl = (q : Int) := ⟨pl.toNat, by omega⟩
    obtain ⟨A, x, B, hms, hA⟩ : ∃ A x B, R.l = A ++ x :: B ∧ A.length = q := by
      have hlt : q < R.l.length := by omega
      exact ⟨R.l.take q, R.l[q], R.l.drop (q + 1), by rw [List.getElem_cons_drop]; exact (List.take_append_drop q R.l).symm, by simp; omega⟩
    have hn := h.pq.nt
    rw [hms] at hn
    have hpl : pl = (A.length : Int) := by omega
    clear hq hp
    subst hpl
    refine (take_yes hn (by rw [← hms]; omega)).mono ?_
    rintro e w' ⟨rfl, v', h1, h2, h3, h4⟩
    obtain ⟨g1, g2⟩ := h.pq.take hms h1 h2 h3
    refine ⟨0, _, v', A ++ B, x.gd, rfl, ⟨g1, h.st.trans g2, (h.bo.stp h.bo' g2).1, (h.bo.stp h.bo' g2).2, h4.ow, fun g e => ?_, h4.hi, zeroM_own _ _, fun g e => by cases e⟩, g2, .inr ⟨A, B, x, rfl, hms, rfl, rfl, rfl⟩⟩
    have e2 : x.g = g := by
      have e3 : some x.g = some g := e
      simpa using e3
    rw [← e2, oneQ_at]

/-- The document's Take. -/
theorem TkQ.rtak (h : TkQ W0 V own0 own p R bx on f t bv pl k xx y zeroM) (hl : R.L.length ≤ 99999999) : Calls Tryd.prog 20 #[.pointer (some ⟨R.d, 0, none⟩), .int .i64 pl] V fun e w' => ∃ er own' V' L' y2, e = .returned (.tuple #[.agg y2.cells.toArray, .int .i64 er]) ∧ TkQ W0 w' own0 own' p { R with V := V', L := L' } bx on f t bv pl k xx y y2 ∧ Stp V w' own own' p ∧
    ((er = 220 ∧ L' = R.L ∧ y2 = zeroM ∧ (pl < 0 ∨ (R.L.length : Int) ≤ pl)) ∨ ∃ (A A' B : List MsG) (x : MsG), pl = (A.length : Int) ∧ R.L = A ++ x :: B ∧ L' = A' ++ B ∧ AlikeG A A' ∧ y2 = x ∧ er = 0) := by
  by_cases hp : pl < 0 ∨ (R.L.length : Int) ≤ pl
  · refine (rTake_no h.pq.dn pl hp).mono ?_
    rintro e w' ⟨rfl, hb⟩
    exact ⟨220, own, R.V, R.L, zeroM, rfl, h.new (bel_keptQ hb), Stp.new (bel_keptQ hb), .inl ⟨rfl, rfl, rfl, hp⟩⟩
  · obtain ⟨q, hq⟩ : ∃ q : Nat, pl = (q : Int) := ⟨pl.toNat, by omega⟩
    obtain ⟨A, x, B, hms, hA⟩ : ∃ A x B, R.L = A ++ x :: B ∧ A.length = q := by
      have hlt : q < R.L.length := by omega
      exact ⟨R.L.take q, R.L[q], R.L.drop (q + 1), by rw [List.getElem_cons_drop]; exact (List.take_append_drop q R.L).symm, by simp; omega⟩
    have hd := h.pq.dn
    rw [hms] at hd
    have hpl : pl = (A.length : Int) := by omega
    clear hq hp
    subst hpl
    refine (rTake_yes hd (Nat.zero_le _) (by rw [← hms]; omega)).mono ?_
    rintro e w' ⟨rfl, V2, A', h1, h2, h3, h4, h5⟩
    have hk' : Kept V w' (fun k => k = R.d ∨ R.V.ownBlock = some k) := h3.mono (fun _ _ e => .inl e)
    have hxm : x ∈ R.L := by rw [hms]; simp
    have hsub : ∀ m, m ∈ B → m ∈ R.L := fun m hm => by rw [hms]; exact List.mem_append_right _ (List.mem_cons_of_mem _ hm)
    have g1 := h.pq.doc h1 hk' (fun k e => .inr (h4 k e)) (fun m hm k e => by
      rcases List.mem_append.1 hm with hm | hm
      · exact .inr (h5 m hm k e)
      · exact .inl ⟨h.pq.dn.ow.lt.2 m (hsub m hm) k e, h.pq.om m (hsub m hm) k e⟩)
    have g2 : Stp V w' own (upD own V.heap.size p V2) p := Stp.upD hk' (fun k _ hf => h.pq.od10 hf)
    have nd : ∀ k c, own k = 10 * p + c → c ≠ 2 → c < 9 → ¬ (k = R.d ∨ R.V.ownBlock = some k) := fun k c e hc _ e2 => by have := h.pq.od k e2; omega
    refine ⟨0, _, V2, A' ++ B, x, rfl, ⟨g1, h.st.trans g2, (h.bo.stp h.bo' g2).1, (h.bo.stp h.bo' g2).2, Owns.kept h.yo hk' (fun g e => nd g 7 (h.yc g e) (by omega) (by omega)), fun g e => ?_, h.yl, Owns.kept (h.pq.dn.ow.own x hxm) hk' (fun g e => nd g 6 (h.pq.om x hxm g e) (by omega) (by omega)), fun g e => ?_⟩, g2, .inr ⟨A, A', B, x, rfl, hms, rfl, h2, rfl, rfl⟩⟩
    · unfold upD
      rw [if_pos (h.yo.lt g e).2]
      exact h.yc g e
    · unfold upD
      rw [if_pos (h.pq.dn.ow.lt.2 x hxm g e)]
      exact h.pq.om x hxm g e

theorem AlikeG.split {A A2 B B2 : List MsG} {x x2 : MsG} (h : AlikeG (A ++ x :: B) (A2 ++ x2 :: B2)) (hl : A.length = A2.length) : AlikeG A A2 ∧ sameG x x2 ∧ AlikeG B B2 := by
  have hlen := h.1
  simp only [List.length_append, List.length_cons] at hlen
  refine ⟨⟨hl, fun i a b ha hb => ?_⟩, ?_, ⟨by omega, fun i a b ha hb => ?_⟩⟩
  · have h1 := (List.getElem?_eq_some_iff.1 ha).1
    have h2 := (List.getElem?_eq_some_iff.1 hb).1
    exact h.2 i a b (by rw [List.getElem?_append_left h1]; exact ha) (by rw [List.getElem?_append_left h2]; exact hb)
  · exact h.2 A.length x x2 (by rw [List.getElem?_append_right (Nat.le_refl _), Nat.sub_self]; rfl) (by rw [hl, List.getElem?_append_right (Nat.le_refl _), Nat.sub_self]; rfl)
  · exact h.2 (A.length + 1 + i) a b (by rw [List.getElem?_append_right (by omega), show A.length + 1 + i - A.length = i + 1 by omega]; exact ha) (by rw [hl, List.getElem?_append_right (by omega), show A2.length + 1 + i - A2.length = i + 1 by omega]; exact hb)
theorem AlikeG.glue {A A2 B B2 : List MsG} (h : AlikeG A A2) (g : AlikeG B B2) : AlikeG (A ++ B) (A2 ++ B2) := by
  refine ⟨by simp [h.1, g.1], fun i a b ha hb => ?_⟩
  rcases Nat.lt_or_ge i A.length with hi | hi
  · rw [List.getElem?_append_left hi] at ha
    rw [List.getElem?_append_left (by have := h.1; omega)] at hb
    exact h.2 i a b ha hb
  · rw [List.getElem?_append_right hi] at ha
    rw [List.getElem?_append_right (by have := h.1; omega), ← h.1] at hb
    exact g.2 _ a b ha hb

theorem tak_both {l l1 : List MsD} {L L2 : List MsG} {pl er er2 : Int} {y y2 : MsG} (hal : AlikeG (l.map MsD.gd) L)
    (h1 : (er = 220 ∧ l1 = l ∧ y = zeroM ∧ (pl < 0 ∨ (l.length : Int) ≤ pl)) ∨ ∃ (A B : List MsD) (x : MsD), pl = (A.length : Int) ∧ l = A ++ x :: B ∧ l1 = A ++ B ∧ y = x.gd ∧ er = 0)
    (h2 : (er2 = 220 ∧ L2 = L ∧ y2 = zeroM ∧ (pl < 0 ∨ (L.length : Int) ≤ pl)) ∨ ∃ (A A' B : List MsG) (x : MsG), pl = (A.length : Int) ∧ L = A ++ x :: B ∧ L2 = A' ++ B ∧ AlikeG A A' ∧ y2 = x ∧ er2 = 0) : er = er2 ∧ AlikeG (l1.map MsD.gd) L2 ∧ l1.length ≤ l.length + 1 ∧ sameG y y2 := by
  have hLl : L.length = l.length := by have := hal.1; simpa using this.symm
  rcases h1 with ⟨rfl, rfl, rfl, hp⟩ | ⟨A, B, x, hq, rfl, rfl, rfl, rfl⟩
  · rcases h2 with ⟨rfl, rfl, rfl, _⟩ | ⟨A, A', B, x, hq, rfl, _⟩
    · exact ⟨rfl, hal, by omega, rfl, rfl, rfl, rfl⟩
    · simp at hLl; omega
  · rcases h2 with ⟨_, _, _, hp⟩ | ⟨A2, A', B2, x2, hq2, rfl, rfl, h3, rfl, rfl⟩
    · rw [hLl] at hp; simp at hp; omega
    · rw [List.map_append, List.map_cons] at hal
      obtain ⟨a1, a2, a3⟩ := hal.split (by simp; omega)
      refine ⟨rfl, ?_, by simp; omega, a2⟩
      rw [List.map_append]
      exact (a1.trans h3).glue a3

/-- One message in a box, to be read. -/
theorem oneG {w : World} {b : Nat} {y : MsG} (h : w.heap[b]? = some (.cells y.cells.toArray 72 (0, 0))) (hs : Sees w y.v y.bs) : SeesG w (.slice (some ⟨b, 0, none⟩) 1 1) [y] :=
  ⟨_, 1, rfl, Nat.le_refl _, fun m hm => by simp at hm; subst hm; exact hs, fun _ => ⟨b, 0, rfl, fun i m hm j u hj => by
    cases i with
    | succ i => simp at hm
    | zero =>
      simp at hm; subst hm
      rw [cell_of_row w b _ _ _ _ h, ← hj, List.getElem?_toArray]
      congr 1; omega⟩⟩
/-- A box's cells. -/
theorem boxM {w : World} {b : Nat} {y : MsG} (h : w.heap[b]? = some (.cells y.cells.toArray 72 (0, 0))) : w.cell? ⟨b, 0, none⟩ = some (.int .i8 y.f) ∧ w.cell? ⟨b, 1, none⟩ = some (.int .i8 y.t) ∧ w.cell? ⟨b, 2, none⟩ = some y.v ∧ w.cell? ⟨b, 3, none⟩ = some (.bool y.sp) ∧ b < w.heap.size :=
  ⟨by rw [cell_of_row w b _ _ _ _ h]; rfl, by rw [cell_of_row w b _ _ _ _ h]; rfl, by rw [cell_of_row w b _ _ _ _ h]; rfl, by rw [cell_of_row w b _ _ _ _ h]; rfl, lt_of_block h⟩
theorem boxF {w : World} {b : Nat} {cs : Array Value} {T : TypeId} (h : w.heap[b]? = some (.cells cs T (0, 0))) (j : Nat) : w.frozen? ⟨b, j, none⟩ = false := frozen_of_row w b j _ _ h
/-- The box is laid. -/
theorem boxS {w : World} {b : Nat} (h : w.heap[b]? = some (.cells zcM 72 (0, 0))) (y : MsG) :
    ((((w.setCell ⟨b, 0, none⟩ (.int .i8 y.f)).setCell ⟨b, 1, none⟩ (.int .i8 y.t)).setCell ⟨b, 2, none⟩ y.v).setCell ⟨b, 3, none⟩ (.bool y.sp)).heap[b]? = some (.cells y.cells.toArray 72 (0, 0)) ∧ Kept w ((((w.setCell ⟨b, 0, none⟩ (.int .i8 y.f)).setCell ⟨b, 1, none⟩ (.int .i8 y.t)).setCell ⟨b, 2, none⟩ y.v).setCell ⟨b, 3, none⟩ (.bool y.sp)) (fun k => k = b) := by
  have := set4L (V := w) (O := b) (k := 0) (A := []) (Y := []) (y0 := .int .i8 0) (y1 := .int .i8 0) (y2 := .slice none 0 0) (y3 := .bool false) h rfl (.int .i8 y.f) (.int .i8 y.t) y.v (.bool y.sp)
  exact this
end
/-- Bytes of one's own lie in a row, all of their room. -/
theorem lies_ownM {w : World} {b n c : Nat} {a : Option Addr} {xs : List Int} (h : Owns w b (.slice a n c) xs) : Lies w 5 ⟨a, n, c⟩ := by
  obtain ⟨h1, ⟨e, h0⟩ | ⟨g, cap, cur, e, a2, a3, a4, a5, a6, a7⟩⟩ := h
  · simp only [Value.slice.injEq] at e
    obtain ⟨rfl, rfl, rfl⟩ := e
    exact ⟨Nat.le_refl _, Nat.zero_le _, fun _ => rfl, fun h => absurd h (by simp)⟩
  · simp only [Value.slice.injEq] at e
    obtain ⟨rfl, rfl, rfl⟩ := e
    exact ⟨a4, a5, fun h => by simp at h, fun _ => ⟨g, 0, cur, rfl, a3, by show 0 + c ≤ _; omega⟩⟩
theorem feet_ownM {ps : List Pc} {k x : Nat} (h : feet ps k x) : ∃ q ∈ ps, q.val.ownBlock = some k := by
  obtain ⟨q, hq, off, e, _⟩ := h
  refine ⟨q, hq, ?_⟩
  unfold Pc.val
  rw [e]
  rfl
theorem turned_keptM {w w' : World} {ps : List Pc} (h : Turned w w' (feet ps)) : Kept w w' (fun k => ∃ q ∈ ps, q.val.ownBlock = some k) :=
  ⟨h.os, h.tape, h.output, h.size, fun k hk hn => h.same k hk (fun i hi => hn (feet_ownM hi))⟩
section
variable {W : World} {own : Nat → Nat} {p : Nat} {R : PlR}
/-- One message behind what was kept: the append, and the store. -/
theorem Pq.addK {y : MsG} {O : Nat} (h : Pq W own p R) (hy : Owns W 0 y.v y.bs) (hyo : ∀ g, y.v.ownBlock = some g → own g = 10 * p + 7) (hyl : y.bs.length ≤ 8192) (hO : W.heap[O]? = some (.cells y.cells.toArray 72 (0, 0))) (hl : R.K.length ≤ 1000000000) :
    ∃ ka kn kc w1, (∀ ty, (Builtin.append_ #[35, 35] ty #[R.kv, .slice (some ⟨O, 0, none⟩) 1 1]).run Tryd.prog W = .ok (.slice ka kn kc) w1) ∧ w1.cell? ⟨R.x, 2, none⟩ = some R.kv ∧ w1.frozen? ⟨R.x, 2, none⟩ = false ∧ R.x < w1.heap.size ∧ Kept W w1 (fun k => R.kv.ownBlock = some k) ∧
      ∃ own', Pq (w1.setCell ⟨R.x, 2, none⟩ (.slice ka kn kc)) own' p { R with kv := .slice ka kn kc, K := R.K ++ [y] } ∧ Stp W (w1.setCell ⟨R.x, 2, none⟩ (.slice ka kn kc)) own own' p ∧ Kept W (w1.setCell ⟨R.x, 2, none⟩ (.slice ka kn kc)) (fun k => R.kv.ownBlock = some k ∨ k = R.x) ∧ ∀ k, k < W.heap.size → own k ≠ 10 * p + 7 → own' k = own k := by
  have hc : ∀ u ∈ y.cells, u.oneCell' = true := fun u hu => by
    simp only [MsG.cells, List.mem_cons, List.not_mem_nil, or_false] at hu
    obtain ⟨a, c, e⟩ := rowSl hy
    rcases hu with rfl | rfl | rfl | rfl
    · rfl
    · rfl
    · rw [e]; rfl
    · rfl
  obtain ⟨v', w1, hr, ho, hk, hnr⟩ := app_g (x := y) hc h.ko.row hO (by omega) (Nat.zero_le _)
  obtain ⟨ka, kc, rfl⟩ := rowSl ho
  have hrow := hk.heap h.row (fun e => by have := h.okr _ e; have := h.ox; omega)
  exact ⟨ka, _, kc, w1, hr, by rw [cell_of_row _ _ 2 _ _ _ hrow]; rfl, frozen_of_row _ _ _ _ _ hrow, lt_of_block hrow, hk, h.more ho hk hnr hy hyo hyl⟩
/-- One message behind what was wanted. -/
theorem Pq.addW {y : MsG} {O : Nat} (h : Pq W own p R) (hy : Owns W 0 y.v y.bs) (hyo : ∀ g, y.v.ownBlock = some g → own g = 10 * p + 6) (hO : W.heap[O]? = some (.cells y.cells.toArray 72 (0, 0))) (hl : R.T.length ≤ 1000000000) :
    ∃ ka kn kc w1, (∀ ty, (Builtin.append_ #[35, 35] ty #[R.wv, .slice (some ⟨O, 0, none⟩) 1 1]).run Tryd.prog W = .ok (.slice ka kn kc) w1) ∧ w1.cell? ⟨R.x, 3, none⟩ = some R.wv ∧ w1.frozen? ⟨R.x, 3, none⟩ = false ∧ R.x < w1.heap.size ∧ Kept W w1 (fun k => R.wv.ownBlock = some k) ∧
      ∃ own', Pq (w1.setCell ⟨R.x, 3, none⟩ (.slice ka kn kc)) own' p { R with wv := .slice ka kn kc, T := R.T ++ [y] } ∧ Stp W (w1.setCell ⟨R.x, 3, none⟩ (.slice ka kn kc)) own own' p := by
  have hc : ∀ u ∈ y.cells, u.oneCell' = true := fun u hu => by
    simp only [MsG.cells, List.mem_cons, List.not_mem_nil, or_false] at hu
    obtain ⟨a, c, e⟩ := rowSl hy
    rcases hu with rfl | rfl | rfl | rfl
    · rfl
    · rfl
    · rw [e]; rfl
    · rfl
  obtain ⟨v', w1, hr, ho, hk, hnr⟩ := app_g (x := y) hc h.wo.row hO (by omega) (Nat.zero_le _)
  obtain ⟨ka, kc, rfl⟩ := rowSl ho
  have hrow := hk.heap h.row (fun e => by have := h.owr _ e; have := h.ox; omega)
  exact ⟨ka, _, kc, w1, hr, by rw [cell_of_row _ _ 3 _ _ _ hrow]; rfl, frozen_of_row _ _ _ _ _ hrow, lt_of_block hrow, hk, h.want ho hk hnr hy hyo⟩
end
end Go.Proofs.YtghngopclhhoeaaDoor
