/- What acl's Allows answers, for every list, all permissions and every client. -/
import Derived.Test.YtapnaknbidmnmaaDoorQcHJ
import Derived.Lib.SlFresh
namespace Go.Proofs.YtapnaknbidmnmaaDoor
open Go.RowKit Go.Shelf
set_option maxRecDepth 8000

/-- What a list allows. -/
def alB (l : List EnT) (p : Int) (who : List IdT) : Bool := fxLs l && decide (0 ≤ p ∧ p ≤ 31) && idLs who && (bits .andNot .i8 p (grI who l) == 0)

set_option maxHeartbeats 1000000 in
theorem allows_any (v u : Value) (l : List EnT) (p : Int) (who : List IdT) (w : World) (h : SE w v l) (g : SI w u who) (hlen : l.length ≤ 1000) (glen : who.length ≤ 1000) (hsz : ∀ x ∈ l, x.2.2.size ≤ 4294967296) (gsz : ∀ x ∈ who, x.2.size ≤ 4294967296) : Calls Tryd.prog 12 #[v, .int .i8 p, u] w fun e w' => e = .returned (.bool (alB l p who)) ∧ Below w.heap.size w w' := by
  have HF : Hid (Calls Tryd.prog 22 #[v] w fun e w' => e = .returned (.bool (fxLs l)) ∧ Below w.heap.size w w') := isFixed_any v l w h hlen hsz
  have HP : Hid (∀ V : World, Calls Tryd.prog 23 #[.int .i8 p] V fun e w' => e = .returned (.bool (decide (0 ≤ p ∧ p ≤ 31))) ∧ w' = V) := isPerms_any p
  have HC : Hid (∀ V : World, Below w.heap.size w V → Calls Tryd.prog 8 #[u] V fun e w' => e = .returned (erV (idLs who)) ∧ Below w.heap.size w w') := fun V hV => (aclCheckIds u who V (g.below hV) gsz).mono (fun e w' hh => ⟨hh.1, hV.trans (hh.2.mono hV.size)⟩)
  have HG : Hid (∀ V : World, Below w.heap.size w V → Calls Tryd.prog 24 #[v, u] V fun e w' => e = .returned (.int .i8 (grI who l)) ∧ Hid (Below w.heap.size w w')) := fun V hV => (granted_any v u l who V (h.below hV) (g.below hV) hlen glen hsz gsz).mono (fun e w' hh => ⟨hh.1, hV.trans (hh.2.mono hV.size)⟩)
  generalize ha : alB l p who = ba
  unfold alB at ha
  generalize fxLs l = b1 at HF ha
  generalize decide (0 ≤ p ∧ p ≤ 31) = b2 at HP ha
  generalize idLs who = b3 at HC ha
  generalize grI who l = gr at HG ha
  clear h g hlen glen hsz gsz
  cases b1
  · have ha' : ba = false := by rw [← ha]; rfl
    subst ha'
    clear ha
    go_enter Tryd.func12, Tryd.ntmps12
    go_wp2_with (go_at_call 22; refine (HF.out).mono ?_; rintro e w1 ⟨rfl, hB⟩)
    all_goals (go_ret; exact ⟨rfl, hB⟩)
  cases b2
  · have ha' : ba = false := by rw [← ha]; rfl
    subst ha'
    clear ha
    go_enter Tryd.func12, Tryd.ntmps12
    go_wp2_with fail
    go_at_call 22
    refine (HF.out).mono ?_
    rintro e w1 ⟨rfl, hB⟩
    go_wp2_with (go_at_call 23; refine (HP.out _).mono ?_; rintro e w2 ⟨rfl, rfl⟩)
    all_goals (go_ret; exact ⟨rfl, hB⟩)
  cases b3
  · have ha' : ba = false := by rw [← ha]; rfl
    subst ha'
    clear ha
    go_enter Tryd.func12, Tryd.ntmps12
    go_wp2_with fail
    go_at_call 22
    refine (HF.out).mono ?_
    rintro e w1 ⟨rfl, hB⟩
    have HC1 : Hid (Calls Tryd.prog 8 #[u] w1 fun e w' => e = .returned (erV false) ∧ Below w.heap.size w w') := HC.out w1 hB
    clear hB
    go_wp2_with fail
    go_at_call 23
    refine (HP.out _).mono ?_
    rintro e w2 ⟨rfl, rfl⟩
    go_wp2_with (go_at_call 8; refine (HC1.out).mono ?_; rintro e w3 ⟨rfl, hB⟩)
    all_goals (go_ret; exact ⟨rfl, hB⟩)
  · have HA : Hid (ba = (bits .andNot .i8 p gr == 0)) := by show _ = _; rw [← ha]; rfl
    clear ha
    go_enter Tryd.func12, Tryd.ntmps12
    go_wp2_with fail
    go_at_call 22
    refine (HF.out).mono ?_
    rintro e w1 ⟨rfl, hB⟩
    have HC1 : Hid (Calls Tryd.prog 8 #[u] w1 fun e w' => e = .returned (erV true) ∧ Below w.heap.size w w') := HC.out w1 hB
    clear hB
    go_wp2_with fail
    go_at_call 23
    refine (HP.out _).mono ?_
    rintro e w2 ⟨rfl, rfl⟩
    go_wp2_with fail
    go_at_call 8
    refine (HC1.out).mono ?_
    rintro e w3 ⟨rfl, hB⟩
    have HG1 : Hid (Calls Tryd.prog 24 #[v, u] w3 fun e w' => e = .returned (.int .i8 gr) ∧ Hid (Below w.heap.size w w')) := HG.out w3 hB
    clear hB
    go_wp2_with fail
    go_at_call 24
    refine (HG1.out).mono ?_
    rintro e w4 ⟨rfl, HB⟩
    go_wp2
    all_goals (go_ret; exact ⟨by rw [HA.out]; rfl, HB.out⟩)

end Go.Proofs.YtapnaknbidmnmaaDoor

/- What acl's namesOf answers; lists that a call owns. -/
namespace Go.Proofs.YtapnaknbidmnmaaDoor
open Go.RowKit Go.Shelf
set_option maxRecDepth 8000

def isNm (x : IdT) : Bool := x.1.toList == [110, 97, 109, 101]
def idFlat : List IdT → List Value
  | [] => []
  | x :: r => .string x.1 :: .string x.2 :: idFlat r
def enFlat : List EnT → List Value
  | [] => []
  | x :: r => .int .i8 x.1 :: .string x.2.1 :: .string x.2.2 :: enFlat r

theorem idFlat_len : ∀ l : List IdT, (idFlat l).length = l.length * 2
  | [] => rfl
  | x :: r => by simp [idFlat, idFlat_len r]; omega

theorem enFlat_len : ∀ l : List EnT, (enFlat l).length = l.length * 3
  | [] => rfl
  | x :: r => by simp [enFlat, enFlat_len r]; omega

theorem idFlat_app : ∀ (l m : List IdT), idFlat (l ++ m) = idFlat l ++ idFlat m
  | [], _ => rfl
  | x :: r, m => by simp [idFlat, idFlat_app r m]

theorem enFlat_app : ∀ (l m : List EnT), enFlat (l ++ m) = enFlat l ++ enFlat m
  | [], _ => rfl
  | x :: r, m => by simp [enFlat, enFlat_app r m]

theorem idFlat_at : ∀ (l : List IdT) (i : Nat) (x : IdT), l[i]? = some x → (idFlat l)[i * 2]? = some (.string x.1) ∧ (idFlat l)[i * 2 + 1]? = some (.string x.2)
  | y :: r, 0, x, h => by simp at h; subst h; exact ⟨rfl, rfl⟩
  | y :: r, i + 1, x, h => by
    have := idFlat_at r i x (by simpa using h)
    rw [show (i + 1) * 2 = i * 2 + 1 + 1 by omega]
    exact this

theorem enFlat_at : ∀ (l : List EnT) (i : Nat) (x : EnT), l[i]? = some x → (enFlat l)[i * 3]? = some (.int .i8 x.1) ∧ (enFlat l)[i * 3 + 1]? = some (.string x.2.1) ∧ (enFlat l)[i * 3 + 2]? = some (.string x.2.2)
  | y :: r, 0, x, h => by simp at h; subst h; exact ⟨rfl, rfl, rfl⟩
  | y :: r, i + 1, x, h => by
    have := enFlat_at r i x (by simpa using h)
    rw [show (i + 1) * 3 = i * 3 + 1 + 1 + 1 by omega]
    exact this

theorem owns_below {w w' : World} {base : Nat} {e : TypeId} {z n : Nat} {v : Value} {xs : List Value} (h : w.ownsRow base e z v n xs) (hB : Below w.heap.size w w') : w'.ownsRow base e z v n xs := by
  obtain ⟨h1, h2 | ⟨g, cap, cur, a1, a2, a3, a4⟩⟩ := h
  · exact ⟨h1, .inl h2⟩
  · exact ⟨h1, .inr ⟨g, cap, cur, a1, a2, (hB.block _ (lt_of_block a3)).trans a3, a4⟩⟩

theorem grown_below {w0 w w' : World} {e : TypeId} {z n : Nat} {v : Value} {xs : List Value} (hB : Below w0.heap.size w0 w) (ho : w.ownsRow w0.heap.size e z v n xs) (hg : w.grownBy w' v.ownBlock) : Below w0.heap.size w0 w' := by
  refine ⟨hg.os.trans hB.os, hg.tape.trans hB.tape, hg.output.trans hB.output, Nat.le_trans hB.size hg.size, fun k hk => ?_⟩
  rw [hg.block k (Nat.lt_of_lt_of_le hk hB.size) (fun e => ?_), hB.block k hk]
  obtain ⟨_, ⟨rfl, _⟩ | ⟨g, cap, cur, rfl, a2, _⟩⟩ := ho
  · cases e
  · simp [Value.ownBlock] at e
    omega

theorem SI_owns {w : World} {base : Nat} {v : Value} {l : List IdT} (h : w.ownsRow base 26 2 v l.length (idFlat l)) : SI w v l := by
  obtain ⟨_, ⟨rfl, h0⟩ | ⟨g, cap, cur, rfl, _, a3, a4, _, _, a7⟩⟩ := h
  · have : l = [] := List.length_eq_zero_iff.1 h0
    subst this
    exact ⟨none, 0, rfl, Nat.le_refl _, fun hn => absurd rfl hn⟩
  · refine ⟨_, cap, rfl, a4, fun _ => ⟨g, 0, rfl, fun i x hx => ?_⟩⟩
    have hi : i < l.length := by
      rcases Nat.lt_or_ge i l.length with h' | h'
      · exact h'
      · rw [List.getElem?_eq_none h'] at hx; cases hx
    obtain ⟨e1, e2⟩ := idFlat_at l i x hx
    rw [← a7, List.getElem?_take, if_pos (by omega)] at e1 e2
    rw [Nat.zero_add]
    exact ⟨by rw [cell_of_row w g _ _ _ _ a3, ← Array.getElem?_toList]; exact e1, by rw [cell_of_row w g _ _ _ _ a3, ← Array.getElem?_toList]; exact e2⟩

theorem SE_owns {w : World} {base : Nat} {v : Value} {l : List EnT} (h : w.ownsRow base 28 3 v l.length (enFlat l)) : SE w v l := by
  obtain ⟨_, ⟨rfl, h0⟩ | ⟨g, cap, cur, rfl, _, a3, a4, _, _, a7⟩⟩ := h
  · have : l = [] := List.length_eq_zero_iff.1 h0
    subst this
    exact ⟨none, 0, rfl, Nat.le_refl _, fun hn => absurd rfl hn⟩
  · refine ⟨_, cap, rfl, a4, fun _ => ⟨g, 0, rfl, fun i x hx => ?_⟩⟩
    have hi : i < l.length := by
      rcases Nat.lt_or_ge i l.length with h' | h'
      · exact h'
      · rw [List.getElem?_eq_none h'] at hx; cases hx
    obtain ⟨e1, e2, e3⟩ := enFlat_at l i x hx
    rw [← a7, List.getElem?_take, if_pos (by omega)] at e1 e2 e3
    rw [Nat.zero_add]
    exact ⟨by rw [cell_of_row w g _ _ _ _ a3, ← Array.getElem?_toList]; exact e1, by rw [cell_of_row w g _ _ _ _ a3, ← Array.getElem?_toList]; exact e2, by rw [cell_of_row w g _ _ _ _ a3, ← Array.getElem?_toList]; exact e3⟩

theorem Tryd.infoIdP : (Tryd.prog.info? 26).map (fun i => (i.zero, i.size, i.bytes)) = some (some (.agg #[.string ⟨#[]⟩, .string ⟨#[]⟩]), 2, 32) := by kernel_rfl
theorem Tryd.infoEnP : (Tryd.prog.info? 28).map (fun i => (i.zero, i.size, i.bytes)) = some (some (.agg #[.int .i8 0, .string ⟨#[]⟩, .string ⟨#[]⟩]), 3, 40) := by kernel_rfl

theorem info3 {T : TypeId} {z : Value} {s b : Nat} (h : (Tryd.prog.info? T).map (fun i => (i.zero, i.size, i.bytes)) = some (some z, s, b)) : ∃ i, Tryd.prog.info? T = some i ∧ i.zero = some z ∧ i.size = s ∧ i.bytes = b := by
  cases hh : Tryd.prog.info? T with
  | none => rw [hh] at h; simp at h
  | some i => rw [hh] at h; simp at h; exact ⟨i, rfl, h.1, h.2.1, h.2.2⟩

/-- One more id behind a list of one's own. -/
theorem app_id {w : World} {base m : Nat} {v : Value} {l : List IdT} {x : IdT} (ty : TypeId) (ho : w.ownsRow base 26 2 v l.length (idFlat l)) (hm : w.heap[m]? = some (.cells (idCs x) 26 (0, 0))) (hl : l.length ≤ 1000) (hb : base ≤ w.heap.size) :
    ∃ v' w', (Builtin.append_ #[23, 23] ty #[v, .slice (some ⟨m, 0, none⟩) 1 1]).run Tryd.prog w = .ok v' w' ∧ w'.ownsRow base 26 2 v' (l ++ [x]).length (idFlat (l ++ [x])) ∧ w.grownBy w' v.ownBlock := by
  obtain ⟨i, hi, hz, hs, hby⟩ := info3 Tryd.infoIdP
  obtain ⟨v', w', h1, h2, h3, _⟩ := run_append_own (P := Tryd.prog) w base 23 ty 26 i _ 2 32 Tryd.underlying23 hi hz hs hby rfl (by decide) v l.length (idFlat l) ho ⟨m, 0, none⟩ 1 1 [.string x.1, .string x.2] rfl (fun j u hj => by
    rw [Addr.add_lit, Nat.zero_add, cell_of_row w m j _ _ _ hm, ← Array.getElem?_toList]
    exact hj) (by simp [Value.oneCell']) (by unfold maxLen; omega) (by omega) hb
  refine ⟨v', w', h1, ?_, h3⟩
  rw [List.length_append, idFlat_app]
  exact h2

/-- One more entry behind a list of one's own. -/
theorem app_en {w : World} {base m : Nat} {v : Value} {l : List EnT} {x : EnT} (ty : TypeId) (ho : w.ownsRow base 28 3 v l.length (enFlat l)) (hm : w.heap[m]? = some (.cells (enCs x) 28 (0, 0))) (hl : l.length ≤ 1000) (hb : base ≤ w.heap.size) :
    ∃ v' w', (Builtin.append_ #[22, 22] ty #[v, .slice (some ⟨m, 0, none⟩) 1 1]).run Tryd.prog w = .ok v' w' ∧ w'.ownsRow base 28 3 v' (l ++ [x]).length (enFlat (l ++ [x])) ∧ w.grownBy w' v.ownBlock := by
  obtain ⟨i, hi, hz, hs, hby⟩ := info3 Tryd.infoEnP
  obtain ⟨v', w', h1, h2, h3, _⟩ := run_append_own (P := Tryd.prog) w base 22 ty 28 i _ 3 40 Tryd.underlying22 hi hz hs hby rfl (by decide) v l.length (enFlat l) ho ⟨m, 0, none⟩ 1 1 [.int .i8 x.1, .string x.2.1, .string x.2.2] rfl (fun j u hj => by
    rw [Addr.add_lit, Nat.zero_add, cell_of_row w m j _ _ _ hm, ← Array.getElem?_toList]
    exact hj) (by simp [Value.oneCell']) (by unfold maxLen; omega) (by omega) hb
  refine ⟨v', w', h1, ?_, h3⟩
  rw [List.length_append, enFlat_app]
  exact h2

theorem filter_step {who : List IdT} {i : Nat} {x : IdT} (h : who[i]? = some x) : (who.take (i + 1)).filter isNm = (who.take i).filter isNm ++ (if isNm x then [x] else []) := by
  rw [List.take_add_one, h, List.filter_append]
  cases hx : isNm x <;> simp [hx]

set_option maxHeartbeats 2000000 in
theorem namesOf_any (u : Value) (who : List IdT) (w : World) (g : SI w u who) (glen : who.length ≤ 1000) : Calls Tryd.prog 14 #[u] w fun e w' => ∃ v', e = .returned v' ∧ w'.ownsRow w.heap.size 26 2 v' (who.filter isNm).length (idFlat (who.filter isNm)) ∧ Below w.heap.size w w' := by
  obtain ⟨ao, cap, rfl, hcap, hc⟩ := g
  have HC0 : Hid (who ≠ [] → ∃ b off, ao = some ⟨b, off, none⟩ ∧ ∀ i x, who[i]? = some x → w.cell? ⟨b, off + i * 2, none⟩ = some (.string x.1) ∧ w.cell? ⟨b, off + i * 2 + 1, none⟩ = some (.string x.2)) := hc
  clear hc
  go_enter Tryd.func14, Tryd.ntmps14
  go_wp2
  go_loopw [3, 8] (fun vs vi wr => ∃ i : Nat, i ≤ who.length ∧ vi = .int .i64 (i : Int) ∧ Hid (wr.ownsRow w.heap.size 26 2 vs ((who.take i).filter isNm).length (idFlat ((who.take i).filter isNm))) ∧ Hid (Below w.heap.size w wr)) (fun _ vi _ => who.length - (intOf vi).toNat)
  case atStart => exact ⟨0, by omega, rfl, World.ownsRow_nil w _ _ _, Below.refl _ _⟩
  case round =>
    obtain ⟨i, hi, rfl, HO, HW⟩ := hrel
    by_cases hlt : i < who.length
    · have hd : decide ((i : Int) < (who.length : Int)) = true := by simp; omega
      obtain ⟨b, off, hao, hcx⟩ := HC0.out (fun e => by rw [e] at hlt; simp at hlt)
      obtain ⟨x, hx⟩ : ∃ x, who[i]? = some x := ⟨_, List.getElem?_eq_getElem hlt⟩
      obtain ⟨k0, k1⟩ := hcx i x hx
      have l0 := cell_below HW.out k0
      have l1 := cell_below HW.out k1
      have B1 : Below wr.heap.size wr (wr.alloc (.cells (idCs x) 26)) := (Below.refl _ _).alloc (Nat.le_refl _) _
      have hz1 : (wr.alloc (.cells (idCs x) 26)).heap.size = wr.heap.size + 1 := by simp
      have B2 : Below wr.heap.size wr ((wr.alloc (.cells (idCs x) 26)).alloc (.cells (idCs x) 26)) := B1.alloc (by omega) _
      have hm : ((wr.alloc (.cells (idCs x) 26)).alloc (.cells (idCs x) 26)).heap[wr.heap.size + 1]? = some (.cells (idCs x) 26 (0, 0)) := alloc_newq hz1.symm
      have hBW1 : Below w.heap.size w (wr.alloc (.cells (idCs x) 26)) := HW.out.trans (B1.mono HW.out.size)
      have hBW2 : Below w.heap.size w ((wr.alloc (.cells (idCs x) 26)).alloc (.cells (idCs x) 26)) := HW.out.trans (B2.mono HW.out.size)
      have hlen : ((who.take i).filter isNm).length ≤ 1000 := Nat.le_trans (List.length_filter_le _ _) (by rw [List.length_take]; omega)
      obtain ⟨v', w', hr, ho, hg⟩ := app_id (x := x) 23 (owns_below HO.out B2) hm hlen hBW2.size
      have HN : Hid (isNm x = true → w'.ownsRow w.heap.size 26 2 v' ((who.take (i + 1)).filter isNm).length (idFlat ((who.take (i + 1)).filter isNm)) ∧ Below w.heap.size w w') := fun hx' => by
        rw [filter_step hx, hx', if_pos rfl]
        exact ⟨ho, grown_below hBW2 (owns_below HO.out B2) hg⟩
      have HF : Hid (isNm x = false → (wr.alloc (.cells (idCs x) 26)).ownsRow w.heap.size 26 2 u3 ((who.take (i + 1)).filter isNm).length (idFlat ((who.take (i + 1)).filter isNm)) ∧ Below w.heap.size w (wr.alloc (.cells (idCs x) 26))) := fun hx' => by
        rw [filter_step hx, hx', if_neg (by decide), List.append_nil]
        exact ⟨owns_below HO.out B1, hBW1⟩
      subst hao
      clear hcx hx k0 k1 B1 hz1 B2 hm hBW1 hBW2 hlen ho hg HO
      cases hnm : isNm x
      · have hq : (x.1.toList == [110, 97, 109, 101]) = false := hnm
        have HF' := HF.out hnm
        have HFo : Hid ((wr.alloc (.cells (idCs x) 26)).ownsRow w.heap.size 26 2 u3 ((who.take (i + 1)).filter isNm).length (idFlat ((who.take (i + 1)).filter isNm)) ∧ Below w.heap.size w (wr.alloc (.cells (idCs x) 26))) := HF'
        clear HF' hnm HN HF hr
        go_wp2
        go_roundw
        case rel => exact ⟨i + 1, by omega, by simp, HFo.out.1, HFo.out.2⟩
        case measure => simp [intOf]; omega
      · have hq : (x.1.toList == [110, 97, 109, 101]) = true := hnm
        have HNo : Hid (w'.ownsRow w.heap.size 26 2 v' ((who.take (i + 1)).filter isNm).length (idFlat ((who.take (i + 1)).filter isNm)) ∧ Below w.heap.size w w') := HN.out hnm
        clear hnm HN HF
        go_wp2_with (at_builtin; refine Lib.wpList_append_run_sl _ rfl _ _ 23 rfl _ _ rfl rfl hr ?_)
        go_roundw
        case rel => exact ⟨i + 1, by omega, by simp, HNo.out.1, HNo.out.2⟩
        case measure => simp [intOf]; omega
    · have hd : decide ((i : Int) < (who.length : Int)) = false := by simp; omega
      have HE : Hid (wr.ownsRow w.heap.size 26 2 u3 (who.filter isNm).length (idFlat (who.filter isNm))) := by
        have := HO.out
        rw [List.take_of_length_le (by omega)] at this
        exact this
      clear HO
      go_wp2
      all_goals (go_ret; exact ⟨u3, rfl, HE.out, HW.out⟩)

end Go.Proofs.YtapnaknbidmnmaaDoor
