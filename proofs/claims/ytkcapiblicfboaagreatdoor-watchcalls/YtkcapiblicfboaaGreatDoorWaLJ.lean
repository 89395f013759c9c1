/- What a board's Clear and Drop answer. -/
import Derived.Test.YtkcapiblicfboaaGreatDoorWaKJ
namespace Go.Proofs.YtkcapiblicfboaaGreatDoor
open Go.RowKit Go.Shelf
set_option maxRecDepth 8000
set_option linter.unusedSimpArgs false

theorem keepB_none (l : List WaT) : l.filter (keepB []) = [] := List.filter_eq_nil_iff.2 (fun x _ => by simp [keepB])

/-- A row of one's own that lies apart from a board's blocks. -/
theorem own_apart {w w0 : World} {b m : Nat} {v u : Value} {l l' : List WaT} {T : TypeId} {z n : Nat} {xs : List Value} (h : Bo w0 b m v l l') (ho : w.ownsRow w0.heap.size T z u n xs) : ∀ k, u.ownBlock = some k → ¬ Ft b m v k := fun k hk hf => by
  have := (ho.lt k hk).1
  have := h.lt hf
  omega

set_option maxHeartbeats 1000000 in
theorem clear_any {w : World} {b m : Nat} {v : Value} {l : List WaT} (h : Bo w b m v l l) (hl : l.length ≤ 1000) :
    Calls Tryz.prog 20 #[.pointer (some ⟨b, 0, none⟩)] w fun e w' => ∃ u, e = .returned u ∧ w'.ownsRow w.heap.size 57 3 u l.length (waFlat l) ∧ ∃ v', Bo w' b m v' [] [] ∧ Kept w w' (Ft b m v) ∧ v'.ownBlock = v.ownBlock := by
  have HH : Hid (Bo w b m v l l ∧ l.length ≤ 1000) := ⟨h, hl⟩
  have HN : Hid _ := isNone_no h
  have HA : Hid _ := all_any h (by omega)
  clear h hl
  go_enter Tryz.func20, Tryz.ntmps20
  go_wp2_with fail
  refine Calls.mono HN.out ?_
  rintro e w1 ⟨rfl, hw1⟩
  rw [hw1]
  clear hw1 w1
  go_wp2_with fail
  go_at_call 13
  refine Calls.mono HA.out ?_
  rintro e w2 ⟨u, rfl, ho, hB⟩
  clear HN HA
  have h2 := HH.out.1.below hB
  obtain ⟨w3, hcl, hm3, hk3⟩ := clear_map 0 h2.hm
  have hne := h2.ne
  have c1 := h2.c1
  have hz := lt_of_block h2.hb
  have h3 : Bo w3 b m v l [] := ⟨hk3.heap h2.hb hne.1, hm3, rowK h2.ho hk3 (fun g hg e => hne.2.2 (by rw [hg, e]))⟩
  have HS : Hid _ := shrink_any h3 HH.out.2
  have hap := own_apart HH.out.1 ho
  have H3 : Hid (w3.ownsRow w.heap.size 57 3 u l.length (waFlat l) ∧ Kept w w3 (Ft b m v) ∧ ∀ k, u.ownBlock = some k → ¬ Ft b m v k) := ⟨rowK ho hk3 (fun g hg e => hap g hg (by rw [e]; exact .inr (.inl rfl))), ((Below.kept hB).mono (fun k h1 h2 => by omega)).trans hk3 (fun _ _ h => .inr (.inl h)), hap⟩
  obtain ⟨uo, uc, rfl⟩ := rowS ho
  clear ho hB h2 hm3 hk3 hne h3 hap
  go_wp2_with fail
  go_at_call 52
  refine Calls.mono HS.out ?_
  rintro e w4 ⟨rfl, v', h4, hk4, hv4⟩
  rw [keepB_none] at h4
  have HE : Hid (w4.ownsRow w.heap.size 57 3 (.slice uo l.length uc) l.length (waFlat l) ∧ ∃ v', Bo w4 b m v' [] [] ∧ Kept w w4 (Ft b m v) ∧ v'.ownBlock = v.ownBlock) := ⟨rowK H3.out.1 hk4 H3.out.2.2, v', h4, H3.out.2.1.trans hk4 (fun _ _ h => h), hv4⟩
  clear HS h4 hk4 hv4 H3 hcl c1 hz
  go_wp2
  all_goals (go_ret; exact ⟨_, rfl, HE.out⟩)

def ofC (c : Int) (x : WaT) : Bool := x.1 == c

theorem nodup_mid {l : List WaT} (h : l.Nodup) {i : Nat} {x : WaT} (hx : l[i]? = some x) : x ∉ l.take i := by
  have hi : i < l.length := (List.getElem?_eq_some_iff.1 hx).1
  have e : l = l.take i ++ x :: l.drop (i + 1) := by
    rw [← (List.getElem?_eq_some_iff.1 hx).2, ← List.drop_eq_getElem_cons, List.take_append_drop]
  rw [e] at h
  intro hm
  exact (List.nodup_append.1 h).2.2 x hm x (by simp) rfl
theorem drop_at {l : List WaT} {i : Nat} {x : WaT} (hx : l[i]? = some x) : l.drop i = x :: l.drop (i + 1) := by
  rw [← (List.getElem?_eq_some_iff.1 hx).2]
  exact List.drop_eq_getElem_cons _
theorem take_at {l : List WaT} {i : Nat} {x : WaT} (hx : l[i]? = some x) : l.take (i + 1) = l.take i ++ [x] := by rw [List.take_add_one, hx]; rfl
/-- What is left of a list that is gone through: those of the first i that stay, and the rest. -/
def left (p : WaT → Bool) (l : List WaT) (i : Nat) : List WaT := (l.take i).filter p ++ l.drop i
theorem left_yes {p : WaT → Bool} {l : List WaT} {i : Nat} {x : WaT} (hx : l[i]? = some x) (hp : p x = true) : left p l (i + 1) = left p l i := by
  unfold left
  rw [take_at hx, List.filter_append, drop_at hx]
  simp [hp]
theorem left_no {p : WaT → Bool} {l : List WaT} {i : Nat} {x : WaT} (hx : l[i]? = some x) (hp : p x = false) : left p l (i + 1) = (l.take i).filter p ++ l.drop (i + 1) := by
  unfold left
  rw [take_at hx, List.filter_append]
  simp [hp]
theorem left_is {p : WaT → Bool} {l : List WaT} {i : Nat} {x : WaT} (hx : l[i]? = some x) : left p l i = (l.take i).filter p ++ x :: l.drop (i + 1) := by
  unfold left
  rw [drop_at hx]
theorem left_end {p : WaT → Bool} {l : List WaT} {i : Nat} (hi : l.length ≤ i) : left p l i = l.filter p := by
  unfold left
  rw [List.take_of_length_le hi, List.drop_eq_nil_of_le hi, List.append_nil]
theorem keep_filter {p : WaT → Bool} {l : List WaT} : l.filter (keepB (l.filter p)) = l.filter p := by
  apply List.filter_congr
  intro x hx
  cases hp : p x
  · exact keepB_no (fun h => by simp [hp] at h)
  · exact keepB_yes (by simp [hx, hp])

set_option maxHeartbeats 2000000 in
theorem drop_any {w : World} {b m : Nat} {v : Value} {l : List WaT} (c : Int) (h : Bo w b m v l l) (hl : l.length ≤ 1000) (hnd : l.Nodup) :
    Calls Tryz.prog 19 #[.pointer (some ⟨b, 0, none⟩), .int .i64 c] w fun e w' => ∃ u, e = .returned u ∧ w'.ownsRow w.heap.size 57 3 u (l.filter (ofC c)).length (waFlat (l.filter (ofC c))) ∧ ∃ v', Bo w' b m v' (l.filter (fun x => !ofC c x)) (l.filter (fun x => !ofC c x)) ∧ Kept w w' (Ft b m v) ∧ v'.ownBlock = v.ownBlock := by
  have HH : Hid (Bo w b m v l l ∧ l.Nodup) := ⟨h, hnd⟩
  have HN : Hid _ := isNone_no h
  have c0 := h.c0
  have hz := lt_of_block h.hb
  obtain ⟨vo, vc, rfl⟩ := rowS h.ho
  clear h hnd
  go_enter Tryz.func19, Tryz.ntmps19
  go_wp2_with fail
  refine Calls.mono HN.out ?_
  rintro e w1 ⟨rfl, hw1⟩
  rw [hw1]
  clear hw1 w1
  clear HN
  go_wp2
  go_loopw [5, 15] (fun vs vi wr => ∃ i : Nat, i ≤ l.length ∧ vi = .int .i64 (i : Int) ∧ Hid (Bo wr b m (.slice vo l.length vc) l (left (fun x => !ofC c x) l i) ∧ wr.ownsRow w.heap.size 57 3 vs ((l.take i).filter (ofC c)).length (waFlat ((l.take i).filter (ofC c))) ∧ Kept w wr (fun k => k = m))) (fun _ vi _ => l.length - (intOf vi).toNat)
  case atStart => exact ⟨0, by omega, rfl, (by have := HH.out.1; simpa [left] using this), World.ownsRow_nil _ _ _ _, Kept.refl _ _⟩
  case round =>
    obtain ⟨i, hi, rfl, HD⟩ := hrel
    clear c0
    by_cases hlt : i < l.length
    · have hd : decide ((i : Int) < (l.length : Int)) = true := by simp; omega
      obtain ⟨x, hx⟩ : ∃ x, l[i]? = some x := ⟨_, List.getElem?_eq_getElem hlt⟩
      obtain ⟨ao, cap, he, hcap, hc⟩ := SW_owns HD.out.1.ho
      simp only [Value.slice.injEq, true_and] at he
      obtain ⟨rfl, rfl⟩ := he
      obtain ⟨b0, off, hao, hcx⟩ := hc (fun e => by rw [e] at hlt; simp at hlt)
      obtain ⟨k0, k1, k2⟩ := hcx i x hx
      subst hao
      have B1 : Below wr.heap.size wr (wr.alloc (.cells (waCs x) 57)) := (Below.refl _ _).alloc (Nat.le_refl _) _
      have h1 := HD.out.1.below B1
      have ho1 := rowK HD.out.2.1 (Below.kept B1) (fun k hk => by have := (HD.out.2.1.lt k hk).2; omega)
      have hk1 : Kept w (wr.alloc (.cells (waCs x) 57)) (fun k => k = m) := HD.out.2.2.alloc _
      cases hp : ofC c x
      · have hcc : (x.1 == c) = false := hp
        have HN : Hid (Bo (wr.alloc (.cells (waCs x) 57)) b m (.slice (some ⟨b0, off, none⟩) l.length vc) l (left (fun x => !ofC c x) l (i + 1)) ∧ (wr.alloc (.cells (waCs x) 57)).ownsRow w.heap.size 57 3 u5 ((l.take (i + 1)).filter (ofC c)).length (waFlat ((l.take (i + 1)).filter (ofC c))) ∧ Kept w (wr.alloc (.cells (waCs x) 57)) (fun k => k = m)) := by
          refine ⟨?_, ?_, hk1⟩
          · rw [left_yes hx (by simp [hp])]; exact h1
          · rw [take_at hx, List.filter_append, show [x].filter (ofC c) = [] by simp [hp], List.append_nil]; exact ho1
        clear HD h1 ho1 hk1 hp hx hc hcx B1
        go_wp2
        go_roundw
        case rel => exact ⟨i + 1, by omega, by simp, HN⟩
        case measure => simp [intOf]; omega
      · have hcc : (x.1 == c) = true := hp
        have hz1 : (wr.alloc (.cells (waCs x) 57)).heap.size = wr.heap.size + 1 := by simp
        have B2 : Below (wr.alloc (.cells (waCs x) 57)).heap.size (wr.alloc (.cells (waCs x) 57)) ((wr.alloc (.cells (waCs x) 57)).alloc (.cells (waCs x) 57)) := (Below.refl _ _).alloc (Nat.le_refl _) _
        have hm2 : ((wr.alloc (.cells (waCs x) 57)).alloc (.cells (waCs x) 57)).heap[wr.heap.size + 1]? = some (.cells (waCs x) 57 (0, 0)) := by
          have := heap_alloc_new (wr.alloc (.cells (waCs x) 57)) (.cells (waCs x) 57 (0, 0)); rwa [hz1] at this
        have ho2 := rowK ho1 (Below.kept B2) (fun k hk => by have := (ho1.lt k hk).2; omega)
        obtain ⟨v', w', hr, ho3, hk3, hnr⟩ := app_wa (x := x) ho2 hm2 (Nat.le_trans (List.length_filter_le _ _) (by rw [List.length_take]; omega)) (Nat.le_trans hk1.size B2.size)
        have hw0 := HD.out.2.2.size
        have h2 := h1.below B2
        have hap : ∀ k, u5.ownBlock = some k → ¬ Ft b m (.slice (some ⟨b0, off, none⟩) l.length vc) k := own_apart HH.out.1 HD.out.2.1
        have h3 : Bo w' b m (.slice (some ⟨b0, off, none⟩) l.length vc) l (left (fun x => !ofC c x) l i) := h2.kept hk3 (fun k hf hs => hap k hs hf)
        have hbx3 : w'.heap[wr.heap.size]? = some (.cells (waCs x) 57 (0, 0)) := by
          have q1 : (wr.alloc (.cells (waCs x) 57)).heap[wr.heap.size]? = some (.cells (waCs x) 57 (0, 0)) := heap_alloc_new wr _
          exact hk3.heap (box_later q1 B2) (fun hs => by have := (HD.out.2.1.lt _ hs).2; omega)
        have hkw : Kept w w' (fun k => k = m) := (hk1.trans (Below.kept B2) (fun k q1 q2 => by omega)).trans hk3 (fun k q1 q2 => by have := (HD.out.2.1.lt _ q2).1; omega)
        obtain ⟨w4, hst, hm4, hk4'⟩ := strike_some (w := w'.drew) 0 (by have := h3.hm; rw [left_is hx] at this; exact this) (fun hm => nodup_mid HH.out.2 hx (List.mem_filter.1 hm).1)
        have hk4 : Kept w' w4 (fun k => k = m) := ⟨hk4'.os, hk4'.tape, hk4'.output, hk4'.size, hk4'.block⟩
        have hne := h3.ne
        have hmw := HH.out.1.hm.lt
        have g0 : w'.drew.cell? ⟨b, 1, none⟩ = some (.map (some m)) ∧ w'.drew.cell? ⟨wr.heap.size, 0, none⟩ = some (.int .i64 x.1) ∧ w'.drew.cell? ⟨wr.heap.size, 1, none⟩ = some (.int .i8 x.2.1) ∧ w'.drew.cell? ⟨wr.heap.size, 2, none⟩ = some (.string x.2.2) := ⟨h3.c1, cell_of_row w' wr.heap.size 0 _ _ _ hbx3, cell_of_row w' wr.heap.size 1 _ _ _ hbx3, cell_of_row w' wr.heap.size 2 _ _ _ hbx3⟩
        have g1 : w4.cell? ⟨b, 1, none⟩ = some (.map (some m)) ∧ w4.cell? ⟨wr.heap.size, 0, none⟩ = some (.int .i64 x.1) ∧ w4.cell? ⟨wr.heap.size, 1, none⟩ = some (.int .i8 x.2.1) ∧ w4.cell? ⟨wr.heap.size, 2, none⟩ = some (.string x.2.2) := ⟨hk4'.cell g0.1 hne.1, hk4'.cell g0.2.1 (show wr.heap.size ≠ m by omega), hk4'.cell g0.2.2.1 (show wr.heap.size ≠ m by omega), hk4'.cell g0.2.2.2 (show wr.heap.size ≠ m by omega)⟩
        obtain ⟨vo', ln, vc', hvv⟩ : ∃ a n c, v' = .slice a n c := by
          obtain ⟨a, c, e⟩ := rowS ho3
          exact ⟨a, _, c, e⟩
        subst hvv
        have HN : Hid (Bo w4 b m (.slice (some ⟨b0, off, none⟩) l.length vc) l (left (fun x => !ofC c x) l (i + 1)) ∧ w4.ownsRow w.heap.size 57 3 (.slice vo' ln vc') ((l.take (i + 1)).filter (ofC c)).length (waFlat ((l.take (i + 1)).filter (ofC c))) ∧ Kept w w4 (fun k => k = m)) := by
          refine ⟨⟨hk4.heap h3.hb hne.1, ?_, rowK h3.ho hk4 (fun g hg e => hne.2.2 (by rw [hg, e]))⟩, ?_, hkw.trans hk4 (fun _ _ h => h)⟩
          · rw [left_no hx (by simp [hp])]; exact hm4
          · rw [take_at hx, List.filter_append, show [x].filter (ofC c) = [x] by simp [hp]]
            refine rowK ho3 hk4 (fun g hg e => ?_)
            have := (ho3.lt g hg).1
            omega
        clear HD h1 ho1 hk1 hp hx hc hcx B1 hz1 B2 hm2 ho2 ho3 hk3 hnr hw0 h2 hap h3 hbx3 hkw hm4 hk4 hk4' hne hmw
        go_upto_region 9 with (at_builtin; refine Lib.wpList_append_run_sl _ rfl _ _ 64 rfl _ _ rfl rfl (hr _) ?_)
        clear hr
        obtain ⟨bx, hbx⟩ : ∃ bx, bx = wr.heap.size := ⟨_, rfl⟩
        rw [← hbx] at g0 g1 ⊢
        clear hbx
        refine wp_region_held_drew (S := (fun W => W.cell? ⟨b, 1, none⟩ = some (.map (some m)) ∧ W.cell? ⟨bx, 0, none⟩ = some (.int .i64 x.1) ∧ W.cell? ⟨bx, 1, none⟩ = some (.int .i8 x.2.1) ∧ W.cell? ⟨bx, 2, none⟩ = some (.string x.2.2))) (by kernel_rfl) ?_ (fun hHeld => ?_)
        · exact g0
        refine wpAnyH_take (i := 0) (oi := { dst := some 27, op := Op.move (Operand.tmp 0), type := 25, pos := "watch.go:59", after := #[], guard := none }) (v := ?_) rfl (by kernel_rfl) (by kernel_rfl) (by kernel_rfl) (fun _ _ _ h => h) (Or.inl ⟨by rfl, ?_⟩) (by assumption) ?_
        rotate_left
        · (intro w hSw; (try dsimp only at hSw); go_simp) <;> with_reducible rfl
        try simp only [Act.put, List.setIfInBounds_toArray, List.set_cons_zero, List.set_cons_succ]
        refine wpAnyH_take (i := 1) (oi := { dst := some 28, op := Op.nilCheck (Operand.tmp 27), type := 0, pos := "watch.go:59", after := #[{ on := 0, ground := Ground.data }], guard := none }) (v := ?_) rfl (by kernel_rfl) (by kernel_rfl) (by kernel_rfl) (fun _ _ _ h => h) (Or.inl ⟨by rfl, ?_⟩) (by assumption) ?_
        rotate_left
        · (intro w hSw; (try dsimp only at hSw); go_simp) <;> with_reducible rfl
        try simp only [Act.put, List.setIfInBounds_toArray, List.set_cons_zero, List.set_cons_succ]
        refine wpAnyH_take (i := 2) (oi := { dst := some 29, op := Op.fieldAddr 80 (Operand.tmp 28) 1, type := 0, pos := "watch.go:59", after := #[{ on := 1, ground := Ground.data }], guard := none }) (v := ?_) rfl (by kernel_rfl) (by kernel_rfl) (by kernel_rfl) (fun _ _ _ h => h) (Or.inl ⟨by rfl, ?_⟩) (by assumption) ?_
        rotate_left
        · (intro w hSw; (try dsimp only at hSw); go_simp) <;> with_reducible rfl
        try simp only [Act.put, List.setIfInBounds_toArray, List.set_cons_zero, List.set_cons_succ]
        refine wpAnyH_take (i := 3) (oi := { dst := some 30, op := Op.load 78 (Operand.tmp 29), type := 78, pos := "watch.go:59", after := #[{ on := 2, ground := Ground.data }], guard := none }) (v := ?_) rfl (by kernel_rfl) (by kernel_rfl) (by kernel_rfl) (fun _ _ _ h => h) (Or.inl ⟨by rfl, ?_⟩) (by assumption) ?_
        rotate_left
        · (intro w hSw; (try dsimp only at hSw); go_simp) <;> with_reducible rfl
        try simp only [Act.put, List.setIfInBounds_toArray, List.set_cons_zero, List.set_cons_succ]
        refine wpAnyH_take (i := 4) (oi := { dst := some 31, op := Op.load 57 (Operand.tmp 7), type := 57, pos := "watch.go:59", after := #[], guard := none }) (v := ?_) rfl (by kernel_rfl) (by kernel_rfl) (by kernel_rfl) (fun _ _ _ h => h) (Or.inl ⟨by rfl, ?_⟩) (by assumption) ?_
        rotate_left
        · (intro w hSw; (try dsimp only at hSw); go_simp) <;> with_reducible rfl
        try simp only [Act.put, List.setIfInBounds_toArray, List.set_cons_zero, List.set_cons_succ]
        refine wpAnyH_ready (rs := [5]) (by kernel_rfl) (by simp) ?_
        refine AllReadyH.cons (o := { dst := none, op := Op.call { callee := Callee.builtin Builtin.delete, args := #[Operand.tmp 30, Operand.tmp 31], argTypes := #[78, 57] }, type := 0, pos := "watch.go:59", after := #[{ on := 3, ground := Ground.data }, { on := 4, ground := Ground.data }], guard := none }) rfl (fun K hK => ?_) AllReadyH.nil
        go_simp
        refine hK.out _ _ g1 (fun hHeld => ?_)
        clear hK K
        refine wpAnyH_done (by kernel_rfl) ?_ _
        clear hHeld g0 g1 hst
        go_wp2
        go_roundw
        case rel => exact ⟨i + 1, by omega, by simp, HN⟩
        case measure => simp [intOf]; omega
    · have hd : decide ((i : Int) < (l.length : Int)) = false := by simp; omega
      have e1 : left (fun x => !ofC c x) l i = l.filter (fun x => !ofC c x) := left_end (by omega)
      have HS : Hid _ := shrink_any HD.out.1 hl
      have HO : Hid (wr.ownsRow w.heap.size 57 3 u5 (l.filter (ofC c)).length (waFlat (l.filter (ofC c))) ∧ Kept w wr (fun k => k = m) ∧ left (fun x => !ofC c x) l i = l.filter (fun x => !ofC c x)) := by
        have := HD.out.2.1
        rw [List.take_of_length_le (by omega)] at this
        exact ⟨this, HD.out.2.2, e1⟩
      obtain ⟨uo, ln, uc, huu⟩ : ∃ a n c, u5 = .slice a n c := by
        obtain ⟨a, c, e⟩ := rowS HD.out.2.1
        exact ⟨a, _, c, e⟩
      subst huu
      clear HD e1
      go_wp2_with fail
      go_at_call 52
      refine Calls.mono HS.out ?_
      rintro e w4 ⟨rfl, v', h4, hk4, hv4⟩
      rw [HO.out.2.2, keep_filter] at h4
      have HE : Hid (w4.ownsRow w.heap.size 57 3 (.slice uo ln uc) (l.filter (ofC c)).length (waFlat (l.filter (ofC c))) ∧ ∃ v', Bo w4 b m v' (l.filter (fun x => !ofC c x)) (l.filter (fun x => !ofC c x)) ∧ Kept w w4 (Ft b m (.slice vo l.length vc)) ∧ v'.ownBlock = (Value.slice vo l.length vc).ownBlock) := ⟨rowK HO.out.1 hk4 (own_apart HH.out.1 HO.out.1), v', h4, (HO.out.2.1.mono (fun _ _ h => .inr (.inl h))).trans hk4 (fun _ _ h => h), hv4⟩
      clear HS h4 hk4 hv4 HO HH
      go_wp2
      all_goals (go_ret; exact ⟨_, rfl, HE.out⟩)

end Go.Proofs.YtkcapiblicfboaaGreatDoor
