/- lagoonref00's WideFiles: a list of files of its own with marks behind it, and behind each file's bytes. -/
import Derived.Test.YtdhnbgeijfgfaaaGreatDoorWideJ
import Derived.Test.YtdhnbgeijfgfaaaGreatDoorRdUJ
namespace Go.Proofs.YtdhnbgeijfgfaaaGreatDoor
open Go.RowKit Go.Shelf
set_option maxRecDepth 8000

theorem heap_setF {w : World} {b i : Nat} {cs : Array Value} {t : TypeId} {fr : Nat × Nat} (c : Value) (h : w.heap[b]? = some (.cells cs t fr)) : (w.setCell ⟨b, i, none⟩ c).heap[b]? = some (.cells (cs.setIfInBounds i c) t fr) := by
  rw [setCell_eq_setRow w b i cs t fr c h]
  exact setRow_heap w b cs _ t fr h

theorem fileSize : (Tryz.prog.info? 38).map (·.size) = some 3 := by kernel_rfl

theorem results_cellF {fn : Func} {p : Tmp} {ty : TypeId} (h : fn.results = #[.cell p ty]) (tmps : Array Value) (P : Program) (w : World) :
    (results fn tmps).run P w = ((asAddr (tmps.getD p undef)).run P w).andThen fun a w₁ => (loadVar ty a).run P w₁ := by
  simp only [results, h]
  simp [Sem.run_bind, Result.andThen]

theorem gotF {R : Ending → World → Prop} {a : Act} {w1 : World} {b : Nat} {d0 d1 d2 : Value} (c0 c1 c2 : Value) (hbox : w1.heap[b]? = some (.cells #[d0, d1, d2] 38 (0, 0)))
    (h4 : a.tmps.getD 2 undef = .pointer (some ⟨b, 0, none⟩)) (hd : a.defers = [])
    (hR : R (.returned (.agg #[c0, c1, c2])) (((w1.setCell ⟨b, 0, none⟩ c0).setCell ⟨b, 1, none⟩ c1).setCell ⟨b, 2, none⟩ c2)) :
    bodyPost Tryz.prog Tryz.f20 R .ret a (((w1.setCell ⟨b, 0, none⟩ c0).setCell ⟨b, 1, none⟩ c1).setCell ⟨b, 2, none⟩ c2) := by
  have hrow := heap_setF (i := 2) c2 (heap_setF (i := 1) c1 (heap_setF (i := 0) c0 hbox))
  have e : ((#[d0, d1, d2].setIfInBounds 0 c0).setIfInBounds 1 c1).setIfInBounds 2 c2 = #[c0, c1, c2] := by simp
  rw [e] at hrow
  refine bodyPost_ret (v := .agg #[c0, c1, c2]) ?_ hd hR
  have hl := run_loadVar_row (P := Tryz.prog) _ b _ 38 _ _ _ hrow Tryz.underlying38 rfl fileSize
  rw [results_cellF Tryz.results20, h4]
  simp only [asAddr, Sem.run_pure, Result.andThen_ok, hl]

set_option maxHeartbeats 1000000 in
theorem wideFile_any (nm : ByteArray) (v : Value) (xs : List Int) (du : Int) (w : World) (h : Sees w v xs) (hl : xs.length ≤ 70000000000000) :
    Calls Tryz.prog 20 #[.agg #[.string nm, v, .int .i64 du]] w fun e w' => ∃ b, e = .returned (.agg #[.string nm, .slice (some ⟨b, 0, none⟩) xs.length (xs.length + 64), .int .i64 du]) ∧ w.heap.size ≤ b ∧ Owns w' b (.slice (some ⟨b, 0, none⟩) (wide xs).length (xs.length + 64)) (wide xs) ∧ Below w.heap.size w w' := by
  obtain ⟨ao, c, rfl, _⟩ := id h
  have HS : Hid (Sees w (.slice ao xs.length c) xs) := h
  clear h
  go_enter Tryz.func20, Tryz.ntmps20
  go_wp2_with fail
  have hk0 : Kept w ((w.alloc (.cells #[.string nm, .slice ao xs.length c, .int .i64 du] 38)).alloc (.cells #[.string ⟨#[]⟩, .slice none 0 0, .int .i64 0] 38)) (fun _ => False) := ((Kept.refl w _).alloc _).alloc _
  refine (wideBytes_any _ xs _ (HS.out.kept hk0 (fun _ _ h => h)) hl).mono ?_
  rintro e w1 ⟨rfl, ho, hb⟩
  have hk1 := Below.kept hb
  have r1 := hk1.heap (((Kept.refl _ (fun _ => False)).alloc (.cells #[.string ⟨#[]⟩, .slice none 0 0, .int .i64 0] 38)).heap (heap_alloc_new w (.cells #[.string nm, .slice ao xs.length c, .int .i64 du] 38)) (fun h => h)) (fun e => by simp at e; omega)
  have r2 := hk1.heap (heap_alloc_new (w.alloc (.cells #[.string nm, .slice ao xs.length c, .int .i64 du] 38)) (.cells #[.string ⟨#[]⟩, .slice none 0 0, .int .i64 0] 38)) (fun e => by simp at e; omega)
  have hz : ((w.alloc (.cells #[.string nm, .slice ao xs.length c, .int .i64 du] 38)).alloc (.cells #[.string ⟨#[]⟩, .slice none 0 0, .int .i64 0] 38)).heap.size = w.heap.size + 2 := by simp
  have hz1 : (w.alloc (.cells #[.string nm, .slice ao xs.length c, .int .i64 du] 38)).heap.size = w.heap.size + 1 := by simp
  rw [hz1] at r2
  rw [hz] at ho
  rw [hz]
  have HO : Hid (Owns w1 (w.heap.size + 2) (.slice (some ⟨w.heap.size + 2, 0, none⟩) (wide xs).length (xs.length + 64)) (wide xs) ∧ Below w.heap.size w w1) := ⟨ho, ⟨hb.os.trans hk0.os, hb.tape.trans hk0.tape, hb.output.trans hk0.output, Nat.le_trans hk0.size hb.size, fun k hk => (hb.block k (by rw [hz]; omega)).trans (hk0.block k hk (fun h => h))⟩⟩
  have a0 := cell_of_row w1 _ 0 _ _ _ r1
  have a1 := cell_of_row w1 _ 1 _ _ _ r1
  have a2 := cell_of_row w1 _ 2 _ _ _ r1
  have b0 := cell_of_row w1 _ 0 _ _ _ r2
  have b1 := cell_of_row w1 _ 1 _ _ _ r2
  have b2 := cell_of_row w1 _ 2 _ _ _ r2
  have fa := fun j => frozen_of_row w1 _ j _ _ r1
  have fb := fun j => frozen_of_row w1 _ j _ _ r2
  simp only [List.getElem?_toArray, List.getElem?_cons_zero, List.getElem?_cons_succ] at a0 a1 a2 b0 b1 b2
  have HR2 : Hid (w1.heap[w.heap.size + 1]? = some (.cells #[.string ⟨#[]⟩, .slice none 0 0, .int .i64 0] 38 (0, 0))) := r2
  clear hk0 hk1 hz hz1 ho hb r1 r2
  go_wp2
  have hk2 : Kept w1 (w1.setCell ⟨w.heap.size, 1, none⟩ (.slice (some ⟨w.heap.size + 2, 0, none⟩) xs.length (xs.length + 64))) (fun k => k = w.heap.size) := (Kept.refl w1 _).setCell _ _ (fun _ => rfl)
  have hk3 : Kept w1 ((((w1.setCell ⟨w.heap.size, 1, none⟩ (.slice (some ⟨w.heap.size + 2, 0, none⟩) xs.length (xs.length + 64))).setCell ⟨w.heap.size + 1, 0, none⟩ (.string nm)).setCell ⟨w.heap.size + 1, 1, none⟩ (.slice (some ⟨w.heap.size + 2, 0, none⟩) xs.length (xs.length + 64))).setCell ⟨w.heap.size + 1, 2, none⟩ (.int .i64 du)) (fun k => k = w.heap.size ∨ k = w.heap.size + 1) :=
    (((hk2.mono (fun _ _ h => .inl h)).setCell _ _ (fun _ => .inr rfl)).setCell _ _ (fun _ => .inr rfl)).setCell _ _ (fun _ => .inr rfl)
  refine gotF _ _ _ (hk2.heap HR2.out (by omega)) rfl rfl ⟨_, rfl, by omega, Owns.kept HO.out.1 hk3 (fun k e e' => by simp [Value.ownBlock] at e; omega), HO.out.2.trans (hk3.below HO.out.2.size (fun k e => by omega))⟩

/-- What stands at a place of a wide list. -/
def cellF (l : List FlK) (bk : Nat → Nat) (j : Nat) : Value × Value × Value :=
  if h : j < l.length then (.string l[j].name, .slice (some ⟨bk j, 0, none⟩) l[j].p.length (l[j].p.length + 64), .int .i64 l[j].dur) else (.string (markS (-3000000 - (j : Int))), .slice none 0 0, .int .i64 0)

/-- The first k of a wide list of files in block N. -/
structure WdF (w : World) (N : Nat) (l : List FlK) (bk : Nat → Nat) (k : Nat) (cs : List Value) : Prop where
  own : w.ownsRow N 38 3 (.slice (some ⟨N, 0, none⟩) (l.length + 64) (l.length + 64)) (l.length + 64) cs
  cells : ∀ j, j < k → cs[j * 3]? = some (cellF l bk j).1 ∧ cs[j * 3 + 1]? = some (cellF l bk j).2.1 ∧ cs[j * 3 + 2]? = some (cellF l bk j).2.2
  bytes : ∀ j (h : j < l.length), j < k → Owns w (bk j) (.slice (some ⟨bk j, 0, none⟩) (wide l[j].p).length (l[j].p.length + 64)) (wide l[j].p)
  inc : ∀ i j, i < j → j < k → j < l.length → bk i < bk j
  low : ∀ j, j < k → j < l.length → N < bk j

def updB (bk : Nat → Nat) (k b : Nat) : Nat → Nat := fun j => if j = k then b else bk j
theorem updB_same (bk : Nat → Nat) (k b : Nat) : updB bk k b k = b := by unfold updB; rw [if_pos rfl]
theorem updB_other (bk : Nat → Nat) (k b : Nat) {j : Nat} (h : j ≠ k) : updB bk k b j = bk j := by unfold updB; rw [if_neg h]
theorem cellF_upd (l : List FlK) (bk : Nat → Nat) (k b : Nat) {j : Nat} (h : j ≠ k) : cellF l (updB bk k b) j = cellF l bk j := by unfold cellF; rw [updB_other bk k b h]
theorem cellF_in {l : List FlK} {bk : Nat → Nat} {j : Nat} (h : j < l.length) : cellF l bk j = (.string l[j].name, .slice (some ⟨bk j, 0, none⟩) l[j].p.length (l[j].p.length + 64), .int .i64 l[j].dur) := by unfold cellF; rw [dif_pos h]
theorem cellF_out {l : List FlK} {bk : Nat → Nat} {j : Nat} (h : ¬ j < l.length) : cellF l bk j = (.string (markS (-3000000 - (j : Int))), .slice none 0 0, .int .i64 0) := by unfold cellF; rw [dif_neg h]

section
variable {w w' : World} {N k : Nat} {l : List FlK} {bk : Nat → Nat} {cs : List Value}

theorem WdF.lt (h : WdF w N l bk k cs) : N < w.heap.size := (h.own.lt N rfl).2
theorem WdF.kept {S : Nat → Prop} (h : WdF w N l bk k cs) (hk : Kept w w' S) (h1 : ¬ S N) (h2 : ∀ j, j < k → j < l.length → ¬ S (bk j)) : WdF w' N l bk k cs := by
  refine ⟨?_, h.cells, fun j hj hjk => ?_, h.inc, h.low⟩
  · refine ⟨h.own.1, ?_⟩
    rcases h.own.2 with h0 | ⟨g, c, cur, e, q1, q2, q3⟩
    · exact .inl h0
    · simp only [Value.slice.injEq, Option.some.injEq, Addr.mk.injEq, and_true, true_and] at e
      obtain ⟨rfl, rfl⟩ := e
      exact .inr ⟨_, _, cur, rfl, q1, hk.heap q2 h1, q3⟩
  · exact Owns.kept (h.bytes j hj hjk) hk (fun k' e => by simp [Value.ownBlock] at e; subst e; exact h2 j hjk hj)
theorem WdF.below (h : WdF w N l bk k cs) (hb : Below w.heap.size w w') : WdF w' N l bk k cs := h.kept (Below.kept hb) (fun e => by have := h.lt; omega) (fun j hj hl e => by have := ((h.bytes j hl hj).lt (bk j) rfl).2; omega)

set_option maxHeartbeats 2000000 in
/-- One place more is laid. -/
theorem WdF.put (h : WdF w N l bk k cs) (hk : k < l.length + 64) (b : Nat) (hb : ∀ hl : k < l.length, Owns w b (.slice (some ⟨b, 0, none⟩) (wide l[k].p).length (l[k].p.length + 64)) (wide l[k].p) ∧ (∀ j, j < k → bk j < b) ∧ N < b) {x0 x1 x2 : Value} (hx : cellF l (updB bk k b) k = (x0, x1, x2)) :
    WdF (((w.setCell ⟨N, k * 3, none⟩ x0).setCell ⟨N, k * 3 + 1, none⟩ x1).setCell ⟨N, k * 3 + 2, none⟩ x2) N l (updB bk k b) (k + 1) (((cs.set (k * 3) x0).set (k * 3 + 1) x1).set (k * 3 + 2) x2) := by
  have hlen : cs.length = (l.length + 64) * 3 := h.own.1
  have R0 := (h.own.stored (k * 3) x0).1
  have R1 := (R0.stored (k * 3 + 1) x1).1
  have R2 := (R1.stored (k * 3 + 2) x2).1
  have hK : Kept w (((w.setCell ⟨N, k * 3, none⟩ x0).setCell ⟨N, k * 3 + 1, none⟩ x1).setCell ⟨N, k * 3 + 2, none⟩ x2) (fun j => j = N) := (((Kept.refl w (fun j => j = N)).setCell ⟨N, k * 3, none⟩ x0 (fun _ => rfl)).setCell ⟨N, k * 3 + 1, none⟩ x1 (fun _ => rfl)).setCell ⟨N, k * 3 + 2, none⟩ x2 (fun _ => rfl)
  have hown : (((w.setCell ⟨N, k * 3, none⟩ x0).setCell ⟨N, k * 3 + 1, none⟩ x1).setCell ⟨N, k * 3 + 2, none⟩ x2).ownsRow N 38 3 (.slice (some ⟨N, 0, none⟩) (l.length + 64) (l.length + 64)) (l.length + 64) (((cs.set (k * 3) x0).set (k * 3 + 1) x1).set (k * 3 + 2) x2) := R2
  clear R0 R1 R2
  refine ⟨hown, fun j hj => ?_, fun j hj hjk => ?_, fun i j hij hj hl => ?_, fun j hj hl => ?_⟩
  clear hown hK
  · by_cases e : j = k
    · subst e
      rw [hx]
      refine ⟨?_, ?_, ?_⟩
      · rw [List.getElem?_set_ne (by omega), List.getElem?_set_ne (by omega), List.getElem?_set_self (by first | omega | (simp only [List.length_set]; omega))]
      · rw [List.getElem?_set_ne (by omega), List.getElem?_set_self (by first | omega | (simp only [List.length_set]; omega))]
      · rw [List.getElem?_set_self (by first | omega | (simp only [List.length_set]; omega))]
    · obtain ⟨a0, a1, a2⟩ := h.cells j (by omega)
      rw [cellF_upd l bk k b e]
      refine ⟨?_, ?_, ?_⟩
      · rw [List.getElem?_set_ne (by omega), List.getElem?_set_ne (by omega), List.getElem?_set_ne (by omega)]; exact a0
      · rw [List.getElem?_set_ne (by omega), List.getElem?_set_ne (by omega), List.getElem?_set_ne (by omega)]; exact a1
      · rw [List.getElem?_set_ne (by omega), List.getElem?_set_ne (by omega), List.getElem?_set_ne (by omega)]; exact a2
  · by_cases e : j = k
    · subst e
      rw [updB_same]
      exact Owns.kept (hb hj).1 hK (fun k' e e' => by simp [Value.ownBlock] at e; have := (hb hj).2.2; omega)
    · rw [updB_other bk k b e]
      exact Owns.kept (h.bytes j hj (by omega)) hK (fun k' e2 e' => by simp [Value.ownBlock] at e2; have := h.low j (by omega) hj; omega)
  · by_cases e : j = k
    · subst e
      rw [updB_same, updB_other bk j b (by omega)]
      exact (hb hl).2.1 i hij
    · rw [updB_other bk k b e, updB_other bk k b (by omega)]
      exact h.inc i j hij (by omega) hl
  · by_cases e : j = k
    · subst e; rw [updB_same]; exact (hb hl).2.2
    · rw [updB_other bk k b e]; exact h.low j (by omega) hl
end

set_option maxHeartbeats 2000000 in
theorem wideFiles_any (v : Value) (l : List FlK) (n : Nat) (w : World) (h : SeesFls w n v l) (hnw : n ≤ w.heap.size) (hlen : l.length ≤ 3000000000) (hp : ∀ o ∈ l, o.p.length ≤ 70000000000000) (ht : Tab w) (hg0 : 0 < w.heap.size) :
    Calls Tryz.prog 6 #[v] w fun e w' => e = .returned (.slice (some ⟨w.heap.size, 0, none⟩) l.length (l.length + 64)) ∧ (∃ bk cs, WdF w' w.heap.size l bk (l.length + 64) cs) ∧ Below w.heap.size w w' := by
  have HT : Hid (Tab w ∧ 0 < w.heap.size ∧ (∀ o ∈ l, o.p.length ≤ 70000000000000)) := ⟨ht, hg0, hp⟩
  obtain ⟨⟨ao, cap, rfl, hlc, hcm, h3⟩, h4⟩ := h
  unfold maxLen at hcm
  have H3 : Hid ((l = [] ∨ ∃ b off, ao = some ⟨b, off, none⟩ ∧ b < n ∧ ∀ (i : Nat) (h : i < l.length), w.rangeAt b (off + i * 3) l[i].cells) ∧ ∀ o ∈ l, GoodFl w n o) := ⟨h3, h4⟩
  clear ht hg0 hp h3 h4
  obtain ⟨i0, hi, hz0, hz1, hz2⟩ := info_parts Tryz.infoFile
  go_enter Tryz.func6, Tryz.ntmps6
  go_wp2_with (at_make; refine wpList_make_full _ rfl _ _ 22 rfl w.heap.size 38 i0 (.agg #[.string ⟨#[]⟩, .slice none 0 0, .int .i64 0]) 3 Tryz.underlying22 hi hz0 hz1 .i64 .i64 _ _ (l.length + 64) rfl rfl (by omega) (by omega) (by rw [hz2]; omega) (by unfold maxLen; omega) (Nat.le_refl _) ?_)
  intro w0 hown0 hgrow0
  have hbel0 : Below w.heap.size w w0 := (Below.refl _ _).grown hgrow0 (Nat.le_refl _) (fun k hk => by simp at hk)
  have HO0 : Hid (Below w.heap.size w w0 ∧ ∃ bk cs, WdF w0 w.heap.size l bk 0 cs) := ⟨hbel0, fun _ => 0, _, hown0, fun j hj => by omega, fun j _ hj => by omega, fun i j _ hj => by omega, fun j hj => by omega⟩
  clear hown0 hgrow0 hbel0
  go_wp2
  go_loopw [4] (fun i wr => ∃ k : Nat, k ≤ l.length + 64 ∧ i = .int .i64 k ∧ Hid (Below w.heap.size w wr ∧ ∃ bk cs, WdF wr w.heap.size l bk k cs)) (fun i _ => l.length + 64 - (intOf i).toNat)
  case atStart => exact ⟨0, Nat.zero_le _, rfl, HO0⟩
  case round =>
    clear HO0 w0
    obtain ⟨k, hk, rfl, HO⟩ := hrel
    by_cases hlt : k < l.length + 64
    · by_cases hlx : k < l.length
      · obtain ⟨b, off, rfl, hra⟩ : ∃ b off, ao = some ⟨b, off, none⟩ ∧ ∀ wx, Below w.heap.size w wx → wx.rangeAt b (off + k * 3) l[k].cells := by
          rcases H3.out.1 with h3 | ⟨b, off, e, hb, h3⟩
          · subst h3; simp at hlx
          · exact ⟨b, off, e, fun wx hb2 j x hj => (Below.kept hb2).cell (h3 k hlx j x hj) (fun e => by have e' : w.heap.size ≤ b := e; omega)⟩
        have hgd := H3.out.2 l[k] (List.getElem_mem hlx)
        have hsee : Sees wr (.slice l[k].pa l[k].p.length l[k].pc) l[k].p := hgd.see.keptN (Below.kept HO.out.1) (fun hy j e e' => by have := hgd.pb hy j e; omega)
        have hpl := HT.out.2.2 l[k] (List.getElem_mem hlx)
        have hr := hra wr HO.out.1
        have c0 := hr 0 _ rfl
        have c1 := hr 1 _ rfl
        have c2 := hr 2 _ rfl
        rw [Nat.add_zero] at c0
        obtain ⟨o, ho⟩ : ∃ o, o = l[k] := ⟨_, rfl⟩
        have HE : Hid (o = l[k]) := ho
        rw [← ho] at hsee hpl c0 c1 c2
        clear hr hra hgd ho
        go_wp2_with fail
        refine (wideFile_any o.name _ o.p o.dur _ hsee hpl).mono ?_
        rintro e w1 ⟨b1, rfl, hb1, ho1, hbel1⟩
        obtain ⟨hbel0, bk, cs, hwd⟩ := HO.out
        have hwd1 := hwd.below hbel1
        have hown := hwd1.own
        have hl : cs.length = (l.length + 64) * 3 := hown.1
        obtain ⟨u0, hu0⟩ : ∃ u, w1.cell? ⟨w.heap.size, k * 3, none⟩ = some u := ⟨cs[k * 3]'(by omega), by rw [hown.cellAt _ (by omega), List.getElem?_eq_getElem (by omega)]⟩
        obtain ⟨u1, hu1⟩ : ∃ u, w1.cell? ⟨w.heap.size, k * 3 + 1, none⟩ = some u := ⟨cs[k * 3 + 1]'(by omega), by rw [hown.cellAt _ (by omega), List.getElem?_eq_getElem (by omega)]⟩
        obtain ⟨u2, hu2⟩ : ∃ u, w1.cell? ⟨w.heap.size, k * 3 + 2, none⟩ = some u := ⟨cs[k * 3 + 2]'(by omega), by rw [hown.cellAt _ (by omega), List.getElem?_eq_getElem (by omega)]⟩
        have hfz0 := hown.frozenAt (k * 3)
        have hfz1 := hown.frozenAt (k * 3 + 1)
        have hfz2 := hown.frozenAt (k * 3 + 2)
        have RB := (((hbel0.trans (hbel1.mono hbel0.size)).setCell (p := ⟨w.heap.size, k * 3, none⟩) (Nat.le_refl _) (.string o.name)).setCell (p := ⟨w.heap.size, k * 3 + 1, none⟩) (Nat.le_refl _) (.slice (some ⟨b1, 0, none⟩) o.p.length (o.p.length + 64))).setCell (p := ⟨w.heap.size, k * 3 + 2, none⟩) (Nat.le_refl _) (.int .i64 o.dur)
        have RP := hwd1.put hlt b1 (fun hl0 => by
          have e := HE.out
          rw [e] at ho1
          exact ⟨ho1, fun j hj => by have h1 := (hwd.bytes j (by omega) hj).lt (bk j) rfl; omega, by have := hwd.lt; omega⟩) (x0 := .string o.name) (x1 := .slice (some ⟨b1, 0, none⟩) o.p.length (o.p.length + 64)) (x2 := .int .i64 o.dur) (by rw [cellF_in hlx, updB_same, HE.out])
        have HR : Hid (_ ∧ ∃ bk' cs', WdF _ w.heap.size l bk' (k + 1) cs') := ⟨RB, _, _, RP⟩
        clear RB RP hwd1 hwd hown hl hbel0 hbel1 ho1 hb1 HO H3 c0 c1 c2 hsee hpl HE
        go_wp2
        go_roundw
        case rel => exact ⟨k + 1, by omega, by go_num, HR⟩
        case measure => simp [intOf]; omega
      · go_wp2_with fail
        refine (mark_is _ _ (by omega) (by omega) (HT.out.1.below HO.out.1 HT.out.2.1)).mono ?_
        rintro e w1 ⟨rfl, hbel1⟩
        obtain ⟨hbel0, bk, cs, hwd⟩ := HO.out
        have hwd1 := hwd.below hbel1
        have hown := hwd1.own
        have hl : cs.length = (l.length + 64) * 3 := hown.1
        obtain ⟨u0, hu0⟩ : ∃ u, w1.cell? ⟨w.heap.size, k * 3, none⟩ = some u := ⟨cs[k * 3]'(by omega), by rw [hown.cellAt _ (by omega), List.getElem?_eq_getElem (by omega)]⟩
        obtain ⟨u1, hu1⟩ : ∃ u, w1.cell? ⟨w.heap.size, k * 3 + 1, none⟩ = some u := ⟨cs[k * 3 + 1]'(by omega), by rw [hown.cellAt _ (by omega), List.getElem?_eq_getElem (by omega)]⟩
        obtain ⟨u2, hu2⟩ : ∃ u, w1.cell? ⟨w.heap.size, k * 3 + 2, none⟩ = some u := ⟨cs[k * 3 + 2]'(by omega), by rw [hown.cellAt _ (by omega), List.getElem?_eq_getElem (by omega)]⟩
        have hfz0 := hown.frozenAt (k * 3)
        have hfz1 := hown.frozenAt (k * 3 + 1)
        have hfz2 := hown.frozenAt (k * 3 + 2)
        have RX : cellF l (updB bk k 0) k = (.string (markS (-3000000 - (k : Int))), .slice none 0 0, .int .i64 0) := cellF_out hlx
        generalize markS (-3000000 - (k : Int)) = ms at *
        have RB := (((hbel0.trans (hbel1.mono hbel0.size)).setCell (p := ⟨w.heap.size, k * 3, none⟩) (Nat.le_refl _) (.string ms)).setCell (p := ⟨w.heap.size, k * 3 + 1, none⟩) (Nat.le_refl _) (.slice none 0 0)).setCell (p := ⟨w.heap.size, k * 3 + 2, none⟩) (Nat.le_refl _) (.int .i64 0)
        have RP := hwd1.put hlt 0 (fun hl0 => absurd hl0 hlx) RX
        have HR : Hid (_ ∧ ∃ bk' cs', WdF _ w.heap.size l bk' (k + 1) cs') := ⟨RB, _, _, RP⟩
        clear RB RP RX hwd1 hwd hown hl hbel0 hbel1 HO H3
        go_wp2
        go_roundw
        case rel => exact ⟨k + 1, by omega, by go_num, HR⟩
        case measure => simp [intOf]; omega
    · obtain rfl : k = l.length + 64 := by omega
      go_wp2
      go_ret
      exact ⟨rfl, HO.out.2, HO.out.1⟩
end Go.Proofs.YtdhnbgeijfgfaaaGreatDoor
