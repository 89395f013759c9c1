/- What acl's namesOf answers; lists that a call owns. -/
import Derived.Test.YtgoiefhhbgollaaGreatDoorQcIJ
import Derived.Lib.SlFresh
import Derived.Maps.AppendAt
namespace Go.Proofs.YtgoiefhhbgollaaGreatDoor
open Go.RowKit Go.Shelf
set_option maxRecDepth 8000

def isNm (x : IdT) : Bool := x.1.toList == [110, 97, 109, 101]
def idFlat : List IdT → List Value
  | [] => []
  | x :: r => .string x.1 :: .string x.2 :: idFlat r
def enFlat : List EnT → List Value
  | [] => []
  | x :: r => .int .i8 x.1 :: .string x.2.1 :: .string x.2.2 :: enFlat r

theorem idFlat_len : ∀ l : List IdT, (idFlat l).length = l.length * 2
  | [] => rfl
  | x :: r => by simp [idFlat, idFlat_len r]; omega

theorem enFlat_len : ∀ l : List EnT, (enFlat l).length = l.length * 3
  | [] => rfl
  | x :: r => by simp [enFlat, enFlat_len r]; omega

theorem idFlat_app : ∀ (l m : List IdT), idFlat (l ++ m) = idFlat l ++ idFlat m
  | [], _ => rfl
  | x :: r, m => by simp [idFlat, idFlat_app r m]

theorem enFlat_app : ∀ (l m : List EnT), enFlat (l ++ m) = enFlat l ++ enFlat m
  | [], _ => rfl
  | x :: r, m => by simp [enFlat, enFlat_app r m]

theorem idFlat_at : ∀ (l : List IdT) (i : Nat) (x : IdT), l[i]? = some x → (idFlat l)[i * 2]? = some (.string x.1) ∧ (idFlat l)[i * 2 + 1]? = some (.string x.2)
  | y :: r, 0, x, h => by simp at h; subst h; exact ⟨rfl, rfl⟩
  | y :: r, i + 1, x, h => by
    have := idFlat_at r i x (by simpa using h)
    rw [show (i + 1) * 2 = i * 2 + 1 + 1 by omega]
    exact this

theorem enFlat_at : ∀ (l : List EnT) (i : Nat) (x : EnT), l[i]? = some x → (enFlat l)[i * 3]? = some (.int .i8 x.1) ∧ (enFlat l)[i * 3 + 1]? = some (.string x.2.1) ∧ (enFlat l)[i * 3 + 2]? = some (.string x.2.2)
  | y :: r, 0, x, h => by simp at h; subst h; exact ⟨rfl, rfl, rfl⟩
  | y :: r, i + 1, x, h => by
    have := enFlat_at r i x (by simpa using h)
    rw [show (i + 1) * 3 = i * 3 + 1 + 1 + 1 by omega]
    exact this

theorem owns_below {w w' : World} {base : Nat} {e : TypeId} {z n : Nat} {v : Value} {xs : List Value} (h : w.ownsRow base e z v n xs) (hB : Below w.heap.size w w') : w'.ownsRow base e z v n xs := by
  obtain ⟨h1, h2 | ⟨g, cap, cur, a1, a2, a3, a4⟩⟩ := h
  · exact ⟨h1, .inl h2⟩
  · exact ⟨h1, .inr ⟨g, cap, cur, a1, a2, (hB.block _ (lt_of_block a3)).trans a3, a4⟩⟩

theorem grown_below {w0 w w' : World} {e : TypeId} {z n : Nat} {v : Value} {xs : List Value} (hB : Below w0.heap.size w0 w) (ho : w.ownsRow w0.heap.size e z v n xs) (hg : w.grownBy w' v.ownBlock) : Below w0.heap.size w0 w' := by
  refine ⟨hg.os.trans hB.os, hg.tape.trans hB.tape, hg.output.trans hB.output, Nat.le_trans hB.size hg.size, fun k hk => ?_⟩
  rw [hg.block k (Nat.lt_of_lt_of_le hk hB.size) (fun e => ?_), hB.block k hk]
  obtain ⟨_, ⟨rfl, _⟩ | ⟨g, cap, cur, rfl, a2, _⟩⟩ := ho
  · cases e
  · simp [Value.ownBlock] at e
    omega

theorem SI_owns {w : World} {base : Nat} {v : Value} {l : List IdT} (h : w.ownsRow base 37 2 v l.length (idFlat l)) : SI w v l := by
  obtain ⟨_, ⟨rfl, h0⟩ | ⟨g, cap, cur, rfl, _, a3, a4, _, _, a7⟩⟩ := h
  · have : l = [] := List.length_eq_zero_iff.1 h0
    subst this
    exact ⟨none, 0, rfl, Nat.le_refl _, fun hn => absurd rfl hn⟩
  · refine ⟨_, cap, rfl, a4, fun _ => ⟨g, 0, rfl, fun i x hx => ?_⟩⟩
    have hi : i < l.length := by
      rcases Nat.lt_or_ge i l.length with h' | h'
      · exact h'
      · rw [List.getElem?_eq_none h'] at hx; cases hx
    obtain ⟨e1, e2⟩ := idFlat_at l i x hx
    rw [← a7, List.getElem?_take, if_pos (by omega)] at e1 e2
    rw [Nat.zero_add]
    exact ⟨by rw [cell_of_row w g _ _ _ _ a3, ← Array.getElem?_toList]; exact e1, by rw [cell_of_row w g _ _ _ _ a3, ← Array.getElem?_toList]; exact e2⟩

theorem SE_owns {w : World} {base : Nat} {v : Value} {l : List EnT} (h : w.ownsRow base 39 3 v l.length (enFlat l)) : SE w v l := by
  obtain ⟨_, ⟨rfl, h0⟩ | ⟨g, cap, cur, rfl, _, a3, a4, _, _, a7⟩⟩ := h
  · have : l = [] := List.length_eq_zero_iff.1 h0
    subst this
    exact ⟨none, 0, rfl, Nat.le_refl _, fun hn => absurd rfl hn⟩
  · refine ⟨_, cap, rfl, a4, fun _ => ⟨g, 0, rfl, fun i x hx => ?_⟩⟩
    have hi : i < l.length := by
      rcases Nat.lt_or_ge i l.length with h' | h'
      · exact h'
      · rw [List.getElem?_eq_none h'] at hx; cases hx
    obtain ⟨e1, e2, e3⟩ := enFlat_at l i x hx
    rw [← a7, List.getElem?_take, if_pos (by omega)] at e1 e2 e3
    rw [Nat.zero_add]
    exact ⟨by rw [cell_of_row w g _ _ _ _ a3, ← Array.getElem?_toList]; exact e1, by rw [cell_of_row w g _ _ _ _ a3, ← Array.getElem?_toList]; exact e2, by rw [cell_of_row w g _ _ _ _ a3, ← Array.getElem?_toList]; exact e3⟩

theorem Tryz.infoIdP : (Tryz.prog.info? 37).map (fun i => (i.zero, i.size, i.bytes)) = some (some (.agg #[.string ⟨#[]⟩, .string ⟨#[]⟩]), 2, 32) := by kernel_rfl
theorem Tryz.infoEnP : (Tryz.prog.info? 39).map (fun i => (i.zero, i.size, i.bytes)) = some (some (.agg #[.int .i8 0, .string ⟨#[]⟩, .string ⟨#[]⟩]), 3, 40) := by kernel_rfl

theorem info3 {T : TypeId} {z : Value} {s b : Nat} (h : (Tryz.prog.info? T).map (fun i => (i.zero, i.size, i.bytes)) = some (some z, s, b)) : ∃ i, Tryz.prog.info? T = some i ∧ i.zero = some z ∧ i.size = s ∧ i.bytes = b := by
  cases hh : Tryz.prog.info? T with
  | none => rw [hh] at h; simp at h
  | some i => rw [hh] at h; simp at h; exact ⟨i, rfl, h.1, h.2.1, h.2.2⟩

/-- One more id behind a list of one's own. -/
theorem app_id {w : World} {base m : Nat} {v : Value} {l : List IdT} {x : IdT} (ty : TypeId) (ho : w.ownsRow base 37 2 v l.length (idFlat l)) (hm : w.heap[m]? = some (.cells (idCs x) 37 (0, 0))) (hl : l.length ≤ 1000) (hb : base ≤ w.heap.size) :
    ∃ v' w', (Builtin.append_ #[23, 23] ty #[v, .slice (some ⟨m, 0, none⟩) 1 1]).run Tryz.prog w = .ok v' w' ∧ w'.ownsRow base 37 2 v' (l ++ [x]).length (idFlat (l ++ [x])) ∧ w.grownBy w' v.ownBlock := by
  obtain ⟨i, hi, hz, hs, hby⟩ := info3 Tryz.infoIdP
  obtain ⟨v', w', h1, h2, h3, _⟩ := run_append_own (P := Tryz.prog) w base 23 ty 37 i _ 2 32 Tryz.underlying23 hi hz hs hby rfl (by decide) v l.length (idFlat l) ho ⟨m, 0, none⟩ 1 1 [.string x.1, .string x.2] rfl (fun j u hj => by
    rw [Addr.add_lit, Nat.zero_add, cell_of_row w m j _ _ _ hm, ← Array.getElem?_toList]
    exact hj) (by simp [Value.oneCell']) (by unfold maxLen; omega) (by omega) hb
  refine ⟨v', w', h1, ?_, h3⟩
  rw [List.length_append, idFlat_app]
  exact h2

/-- One more entry behind a list of one's own. -/
theorem app_en {w : World} {base m : Nat} {v : Value} {l : List EnT} {x : EnT} (ty : TypeId) (ho : w.ownsRow base 39 3 v l.length (enFlat l)) (hm : w.heap[m]? = some (.cells (enCs x) 39 (0, 0))) (hl : l.length ≤ 1000) (hb : base ≤ w.heap.size) :
    ∃ v' w', (Builtin.append_ #[22, 22] ty #[v, .slice (some ⟨m, 0, none⟩) 1 1]).run Tryz.prog w = .ok v' w' ∧ w'.ownsRow base 39 3 v' (l ++ [x]).length (enFlat (l ++ [x])) ∧ w.grownBy w' v.ownBlock := by
  obtain ⟨i, hi, hz, hs, hby⟩ := info3 Tryz.infoEnP
  obtain ⟨v', w', h1, h2, h3, _⟩ := run_append_own (P := Tryz.prog) w base 22 ty 39 i _ 3 40 Tryz.underlying22 hi hz hs hby rfl (by decide) v l.length (enFlat l) ho ⟨m, 0, none⟩ 1 1 [.int .i8 x.1, .string x.2.1, .string x.2.2] rfl (fun j u hj => by
    rw [Addr.add_lit, Nat.zero_add, cell_of_row w m j _ _ _ hm, ← Array.getElem?_toList]
    exact hj) (by simp [Value.oneCell']) (by unfold maxLen; omega) (by omega) hb
  refine ⟨v', w', h1, ?_, h3⟩
  rw [List.length_append, enFlat_app]
  exact h2

theorem filter_step {who : List IdT} {i : Nat} {x : IdT} (h : who[i]? = some x) : (who.take (i + 1)).filter isNm = (who.take i).filter isNm ++ (if isNm x then [x] else []) := by
  rw [List.take_add_one, h, List.filter_append]
  cases hx : isNm x <;> simp [hx]

set_option maxHeartbeats 2000000 in
theorem namesOf_any (u : Value) (who : List IdT) (w : World) (g : SI w u who) (glen : who.length ≤ 1000) : Calls Tryz.prog 26 #[u] w fun e w' => ∃ v', e = .returned v' ∧ w'.ownsRow w.heap.size 37 2 v' (who.filter isNm).length (idFlat (who.filter isNm)) ∧ Below w.heap.size w w' := by
  obtain ⟨ao, cap, rfl, hcap, hc⟩ := g
  have HC0 : Hid (who ≠ [] → ∃ b off, ao = some ⟨b, off, none⟩ ∧ ∀ i x, who[i]? = some x → w.cell? ⟨b, off + i * 2, none⟩ = some (.string x.1) ∧ w.cell? ⟨b, off + i * 2 + 1, none⟩ = some (.string x.2)) := hc
  clear hc
  go_enter Tryz.func26, Tryz.ntmps26
  go_wp2
  go_loopw [3, 8] (fun vs vi wr => ∃ i : Nat, i ≤ who.length ∧ vi = .int .i64 (i : Int) ∧ Hid (wr.ownsRow w.heap.size 37 2 vs ((who.take i).filter isNm).length (idFlat ((who.take i).filter isNm))) ∧ Hid (Below w.heap.size w wr)) (fun _ vi _ => who.length - (intOf vi).toNat)
  case atStart => exact ⟨0, by omega, rfl, World.ownsRow_nil w _ _ _, Below.refl _ _⟩
  case round =>
    obtain ⟨i, hi, rfl, HO, HW⟩ := hrel
    by_cases hlt : i < who.length
    · have hd : decide ((i : Int) < (who.length : Int)) = true := by simp; omega
      obtain ⟨b, off, hao, hcx⟩ := HC0.out (fun e => by rw [e] at hlt; simp at hlt)
      obtain ⟨x, hx⟩ : ∃ x, who[i]? = some x := ⟨_, List.getElem?_eq_getElem hlt⟩
      obtain ⟨k0, k1⟩ := hcx i x hx
      have l0 := cell_below HW.out k0
      have l1 := cell_below HW.out k1
      have B1 : Below wr.heap.size wr (wr.alloc (.cells (idCs x) 37)) := (Below.refl _ _).alloc (Nat.le_refl _) _
      have hz1 : (wr.alloc (.cells (idCs x) 37)).heap.size = wr.heap.size + 1 := by simp
      have B2 : Below wr.heap.size wr ((wr.alloc (.cells (idCs x) 37)).alloc (.cells (idCs x) 37)) := B1.alloc (by omega) _
      have hm : ((wr.alloc (.cells (idCs x) 37)).alloc (.cells (idCs x) 37)).heap[wr.heap.size + 1]? = some (.cells (idCs x) 37 (0, 0)) := alloc_newq hz1.symm
      have hBW1 : Below w.heap.size w (wr.alloc (.cells (idCs x) 37)) := HW.out.trans (B1.mono HW.out.size)
      have hBW2 : Below w.heap.size w ((wr.alloc (.cells (idCs x) 37)).alloc (.cells (idCs x) 37)) := HW.out.trans (B2.mono HW.out.size)
      have hlen : ((who.take i).filter isNm).length ≤ 1000 := Nat.le_trans (List.length_filter_le _ _) (by rw [List.length_take]; omega)
      obtain ⟨v', w', hr, ho, hg⟩ := app_id (x := x) 23 (owns_below HO.out B2) hm hlen hBW2.size
      have HN : Hid (isNm x = true → w'.ownsRow w.heap.size 37 2 v' ((who.take (i + 1)).filter isNm).length (idFlat ((who.take (i + 1)).filter isNm)) ∧ Below w.heap.size w w') := fun hx' => by
        rw [filter_step hx, hx', if_pos rfl]
        exact ⟨ho, grown_below hBW2 (owns_below HO.out B2) hg⟩
      have HF : Hid (isNm x = false → (wr.alloc (.cells (idCs x) 37)).ownsRow w.heap.size 37 2 u3 ((who.take (i + 1)).filter isNm).length (idFlat ((who.take (i + 1)).filter isNm)) ∧ Below w.heap.size w (wr.alloc (.cells (idCs x) 37))) := fun hx' => by
        rw [filter_step hx, hx', if_neg (by decide), List.append_nil]
        exact ⟨owns_below HO.out B1, hBW1⟩
      subst hao
      clear hcx hx k0 k1 B1 hz1 B2 hm hBW1 hBW2 hlen ho hg HO
      cases hnm : isNm x
      · have hq : (x.1.toList == [110, 97, 109, 101]) = false := hnm
        have HF' := HF.out hnm
        have HFo : Hid ((wr.alloc (.cells (idCs x) 37)).ownsRow w.heap.size 37 2 u3 ((who.take (i + 1)).filter isNm).length (idFlat ((who.take (i + 1)).filter isNm)) ∧ Below w.heap.size w (wr.alloc (.cells (idCs x) 37))) := HF'
        clear HF' hnm HN HF hr
        go_wp2
        go_roundw
        case rel => exact ⟨i + 1, by omega, by simp, HFo.out.1, HFo.out.2⟩
        case measure => simp [intOf]; omega
      · have hq : (x.1.toList == [110, 97, 109, 101]) = true := hnm
        have HNo : Hid (w'.ownsRow w.heap.size 37 2 v' ((who.take (i + 1)).filter isNm).length (idFlat ((who.take (i + 1)).filter isNm)) ∧ Below w.heap.size w w') := HN.out hnm
        clear hnm HN HF
        go_wp2_with (at_builtin; refine Lib.wpList_append_run_sl _ rfl _ _ 23 rfl _ _ rfl rfl hr ?_)
        go_roundw
        case rel => exact ⟨i + 1, by omega, by simp, HNo.out.1, HNo.out.2⟩
        case measure => simp [intOf]; omega
    · have hd : decide ((i : Int) < (who.length : Int)) = false := by simp; omega
      have HE : Hid (wr.ownsRow w.heap.size 37 2 u3 (who.filter isNm).length (idFlat (who.filter isNm))) := by
        have := HO.out
        rw [List.take_of_length_le (by omega)] at this
        exact this
      clear HO
      go_wp2
      all_goals (go_ret; exact ⟨u3, rfl, HE.out, HW.out⟩)

end Go.Proofs.YtgoiefhhbgollaaGreatDoor

/- What acl's putFor keeps its list with: an entry put behind it, if it does not stand there. -/
namespace Go.Proofs.YtgoiefhhbgollaaGreatDoor
open Go.RowKit Go.Shelf
set_option maxRecDepth 8000

/-- The list with one more, if it does not stand there. -/
def putL (l : List EnT) (x : EnT) : List EnT := if l.any (fun z => enEq x z) then l else l ++ [x]

/-- The caught list: the variable's block, and a row of one's own. -/
def PFx (w0 : World) (fb : Nat) (fv : Value) (l : List EnT) (V : World) : Prop := V.heap[fb]? = some (.cells #[fv] 22 (0, 0)) ∧ V.ownsRow w0.heap.size 39 3 fv l.length (enFlat l) ∧ Below w0.heap.size w0 V ∧ w0.heap.size ≤ fb

theorem PFx.below {w0 V V' : World} {fb : Nat} {fv : Value} {l : List EnT} (h : PFx w0 fb fv l V) (hB : Below V.heap.size V V') : PFx w0 fb fv l V' :=
  ⟨(hB.block _ (lt_of_block h.1)).trans h.1, owns_below h.2.1 hB, h.2.2.1.trans (hB.mono h.2.2.1.size), h.2.2.2⟩

/-- What a put may change: the variable and its row; the row is the same or a new one. -/
def Puts (fb : Nat) (fv fv' : Value) (w w' : World) : Prop := w.heap.size ≤ w'.heap.size ∧ (∀ k, k < w.heap.size → k ≠ fb → some k ≠ fv.ownBlock → w'.heap[k]? = w.heap[k]?) ∧ (fv'.ownBlock = fv.ownBlock ∨ ∃ g, fv'.ownBlock = some g ∧ w.heap.size ≤ g)

theorem ne_own {w : World} {base fb : Nat} {fv u : Value} {n : Nat} {xs : List Value} (h1 : w.heap[fb]? = some (.cells #[u] 22 (0, 0))) (h2 : w.ownsRow base 39 3 fv n xs) : some fb ≠ fv.ownBlock := by
  intro e
  obtain ⟨_, ⟨rfl, _⟩ | ⟨g, cap, cur, rfl, _, a3, _⟩⟩ := h2
  · cases e
  · simp [Value.ownBlock] at e
    subst e
    rw [h1] at a3
    simp only [Option.some.injEq, Obj.cells.injEq] at a3
    exact absurd a3.2.1 (by decide)

theorem heap_setK {w : World} {b i : Nat} {cs : Array Value} {t : TypeId} {fr : Nat × Nat} (c : Value) (h : w.heap[b]? = some (.cells cs t fr)) : (w.setCell ⟨b, i, none⟩ c).heap[b]? = some (.cells (cs.setIfInBounds i c) t fr) := by
  rw [setCell_eq_setRow w b i cs t fr c h]
  exact setRow_heap w b cs _ t fr h

set_option maxHeartbeats 2000000 in
theorem putFor1_any {w0 : World} {fb : Nat} {fv : Value} {l : List EnT} (p : Int) (x : IdT) (w : World) (h : PFx w0 fb fv l w) (hlen : l.length ≤ 1000) :
    Calls Tryz.prog 63 #[.int .i8 p, .agg (idCs x), .pointer (some ⟨fb, 0, none⟩)] w fun e w' => e = .returned (.tuple #[]) ∧ ∃ fv', PFx w0 fb fv' (putL l (p, x.1, x.2)) w' ∧ Puts fb fv fv' w w' := by
  obtain ⟨y, hy⟩ : ∃ y : EnT, y = (p, x.1, x.2) := ⟨_, rfl⟩
  have B1 : Below w.heap.size w (w.alloc (.cells (idCs x) 37)) := (Below.refl _ _).alloc (Nat.le_refl _) _
  have B2 : Below w.heap.size w ((w.alloc (.cells (idCs x) 37)).alloc (.cells (enCs (p, x.1, x.2)) 39)) := B1.alloc (by simp) _
  have h2 := h.below B2
  have hrowE : ((w.alloc (.cells (idCs x) 37)).alloc (.cells (enCs (p, x.1, x.2)) 39)).heap[w.heap.size + 1]? = some (.cells (enCs (p, x.1, x.2)) 39 (0, 0)) := alloc_newq (by simp)
  have hfb := lt_of_block h.1
  have HC : Hid (Calls Tryz.prog 64 #[fv, .agg (enCs (p, x.1, x.2))] ((w.alloc (.cells (idCs x) 37)).alloc (.cells (enCs (p, x.1, x.2)) 39)) fun e w' => e = .returned (.bool (l.any (fun z => enEq (p, x.1, x.2) z))) ∧ Hid (PFx w0 fb fv l w' ∧ w'.heap[w.heap.size + 1]? = some (.cells (enCs (p, x.1, x.2)) 39 (0, 0)) ∧ Below w.heap.size w w')) :=
    (containsE fv l (p, x.1, x.2) _ (SE_owns h2.2.1) hlen).mono (fun e w' hh => ⟨hh.1, h2.below hh.2, (hh.2.block _ (lt_of_block hrowE)).trans hrowE, B2.trans (hh.2.mono B2.size)⟩)
  have c0 : w.cell? ⟨fb, 0, none⟩ = some fv := cell_of_row w fb 0 _ _ _ h.1
  generalize hany : l.any (fun z => enEq (p, x.1, x.2) z) = ba at HC
  have HPut : Hid (putL l (p, x.1, x.2) = if ba then l else l ++ [(p, x.1, x.2)]) := by show _ = _; unfold putL; rw [hany]
  clear hany B1 B2 h2 hrowE h hy
  go_enter Tryz.func63, Tryz.ntmps63
  go_wp2_with fail
  go_at_call 64
  refine (HC.out).mono ?_
  rintro e w1 ⟨rfl, H1⟩
  cases ba
  · obtain ⟨e0, e1, e2⟩ : w1.cell? ⟨w.heap.size + 1, 0, none⟩ = some (.int .i8 p) ∧ w1.cell? ⟨w.heap.size + 1, 1, none⟩ = some (.string x.1) ∧ w1.cell? ⟨w.heap.size + 1, 2, none⟩ = some (.string x.2) := ⟨cell_of_row w1 _ 0 _ _ _ H1.out.2.1, cell_of_row w1 _ 1 _ _ _ H1.out.2.1, cell_of_row w1 _ 2 _ _ _ H1.out.2.1⟩
    have f0 : w1.cell? ⟨fb, 0, none⟩ = some fv := cell_of_row w1 fb 0 _ _ _ H1.out.1.1
    have B3 : Below w1.heap.size w1 (w1.alloc (.cells (enCs (p, x.1, x.2)) 39)) := (Below.refl _ _).alloc (Nat.le_refl _) _
    have h3 := H1.out.1.below B3
    have hm : (w1.alloc (.cells (enCs (p, x.1, x.2)) 39)).heap[w1.heap.size]? = some (.cells (enCs (p, x.1, x.2)) 39 (0, 0)) := heap_alloc_new _ _
    obtain ⟨i, hi, hz, hs, hby⟩ := info3 Tryz.infoEnP
    obtain ⟨v', w', hr, ho, hg, _, hown⟩ := run_append_own_at (P := Tryz.prog) (w1.alloc (.cells (enCs (p, x.1, x.2)) 39)) w0.heap.size 22 22 39 i _ 3 40 Tryz.underlying22 hi hz hs hby rfl (by decide) fv l.length (enFlat l) h3.2.1 ⟨w1.heap.size, 0, none⟩ 1 1 [.int .i8 p, .string x.1, .string x.2] rfl (fun j u hj => by
      rw [Addr.add_lit, Nat.zero_add, cell_of_row _ w1.heap.size j _ _ _ hm, ← Array.getElem?_toList]
      exact hj) (by simp [Value.oneCell']) (by unfold maxLen; omega) (by omega) h3.2.2.1.size
    obtain ⟨g, cap', rfl⟩ : ∃ g cap', v' = .slice (some ⟨g, 0, none⟩) (l.length + 1) cap' := by
      obtain ⟨_, ⟨_, h0⟩ | ⟨g, cap', _, a1, _⟩⟩ := ho
      · omega
      · exact ⟨g, cap', a1⟩
    have hne := ne_own h3.1 h3.2.1
    have hfb3 := lt_of_block h3.1
    have hfr : w'.heap[fb]? = some (.cells #[fv] 22 (0, 0)) := (hg.block _ hfb3 hne).trans h3.1
    have q0 : w'.cell? ⟨fb, 0, none⟩ = some fv := cell_of_row w' fb 0 _ _ _ hfr
    have q1 : w'.frozen? ⟨fb, 0, none⟩ = false := frozen_of_row w' fb 0 _ _ hfr
    have q2 := lt_of_block hfr
    have HE : Hid (PFx w0 fb (.slice (some ⟨g, 0, none⟩) (l.length + 1) cap') (putL l (p, x.1, x.2)) (w'.setCell ⟨fb, 0, none⟩ (.slice (some ⟨g, 0, none⟩) (l.length + 1) cap')) ∧ Puts fb fv (.slice (some ⟨g, 0, none⟩) (l.length + 1) cap') w (w'.setCell ⟨fb, 0, none⟩ (.slice (some ⟨g, 0, none⟩) (l.length + 1) cap'))) := by
      have hgf : g ≠ fb := fun e => ne_own hfr ho (by rw [e]; rfl)
      have hBw' : Below w0.heap.size w0 w' := grown_below h3.2.2.1 h3.2.1 hg
      have hsz3 : (w1.alloc (.cells (enCs (p, x.1, x.2)) 39)).heap.size = w1.heap.size + 1 := by simp
      have hw1 := H1.out.2.2.size
      refine ⟨⟨heap_setK _ hfr, ?_, hBw'.setCell (p := ⟨fb, 0, none⟩) h3.2.2.2 _, h3.2.2.2⟩, ?_, fun k hk hkf hko => ?_, ?_⟩
      · rw [HPut.out, if_neg (by decide), List.length_append, enFlat_app]
        obtain ⟨o1, ⟨o2, o3⟩ | ⟨g2, c2, cu2, o2, o3, o4, o5⟩⟩ := ho
        · cases o2
        · refine ⟨o1, .inr ⟨g2, c2, cu2, o2, o3, ?_, o5⟩⟩
          have hg2 : g2 ≠ fb := by
            have := congrArg Value.ownBlock o2
            simp [Value.ownBlock] at this
            omega
          rw [Below.heap_setCell _ _ _ _ hg2]
          exact o4
      · have := hg.size
        simp only [World.size_setCell]
        omega
      · rw [Below.heap_setCell _ _ _ _ hkf, hg.block k (by omega) hko, Below.heap_alloc _ _ _ (by omega)]
        exact H1.out.2.2.block k hk
      · rcases hown with e | e
        · exact .inl e
        · exact .inr ⟨_, e, by omega⟩
    clear h3 hm hi hz hs hby ho hg hown hne hfr HPut H1
    go_wp2_with (at_builtin; refine Lib.wpList_append_run_sl _ rfl _ _ 22 rfl _ _ rfl rfl hr ?_)
    all_goals (first | go_end0 | refine bodyPost_ret (results_none rfl _ _ _) rfl ?_)
    all_goals exact ⟨rfl, _, HE.out⟩
  · go_wp2
    all_goals (first | go_end0 | refine bodyPost_ret (results_none rfl _ _ _) rfl ?_)
    all_goals exact ⟨rfl, fv, by rw [HPut.out]; exact H1.out.1, ⟨H1.out.2.2.size, fun k hk _ _ => H1.out.2.2.block k hk, .inl rfl⟩⟩

end Go.Proofs.YtgoiefhhbgollaaGreatDoor
