/- SessionEnds' walk. -/
import Derived.Test.YtmohpcoiobcncaaSeJ
import Derived.Deep.RegionHeld
import Derived.Deep.CutRange
namespace Go.Proofs.Ytmohpcoiobcncaa
open Go.RowKit Go.Shelf
set_option maxRecDepth 8000
set_option linter.unusedSimpArgs false

/-- How often an id stands among the first i. -/
def inT (L : List Int) (i : Nat) (id : Int) : Int := if id ∈ L.take i then 1 else 0
theorem inT_0 (L : List Int) (id : Int) : inT L 0 id = 0 := by simp [inT]
theorem inT_end {L : List Int} {i : Nat} (h : L.length ≤ i) (id : Int) : inT L i id = if id ∈ L then 1 else 0 := by unfold inT; rw [List.take_of_length_le h]
theorem inT_b (L : List Int) (i : Nat) (id : Int) : 0 ≤ inT L i id ∧ inT L i id ≤ 1 := by unfold inT; split <;> omega
theorem inT_no {L : List Int} {i : Nat} {y id : Int} (hy : L[i]? = some y) (hn : y ≠ id) : inT L (i + 1) id = inT L i id := by
  unfold inT
  rw [List.take_add_one, hy]
  simp [Ne.symm hn]
theorem inT_yes {L : List Int} {i : Nat} {y id : Int} (hL : L.Pairwise (· < ·)) (hy : L[i]? = some y) (he : y = id) : inT L (i + 1) id = inT L i id + 1 := by
  subst he
  unfold inT
  have h1 : y ∉ L.take i := fun hm => by
    obtain ⟨k, hk⟩ := List.getElem?_of_mem hm
    rw [List.getElem?_take] at hk
    by_cases hki : k < i
    · rw [if_pos hki] at hk
      obtain ⟨q1, e1⟩ := List.getElem?_eq_some_iff.1 hk
      obtain ⟨q2, e2⟩ := List.getElem?_eq_some_iff.1 hy
      have := List.pairwise_iff_getElem.1 hL k i q1 q2 hki
      omega
    · rw [if_neg hki] at hk; cases hk
  rw [if_neg h1, if_pos (by rw [List.take_add_one, hy]; simp)]
  rfl

/-- What holds while the ticks go by: the session is there and not told, or told once and gone. -/
structure EndI (w wr : World) (c m s : Nat) (span id tm U t : Int) (cur : List LfT) (told : Int) : Prop where
  en : En w wr c m s t span cur
  nd : (ids cur).Nodup
  len : cur.length ≤ 31
  st : (t < U ∧ told = 0 ∧ (id, tm, U) ∈ cur) ∨ (U ≤ t ∧ told = 1 ∧ id ∉ ids cur)

theorem endI_step {w wr w' : World} {c m s : Nat} {span id tm U t : Int} {cur : List LfT} {told : Int} (h : EndI w wr c m s span id tm U t cur told) (he : En w w' c m s (t + 1) span (goL cur (t + 1))) :
    EndI w w' c m s span id tm U (t + 1) (goL cur (t + 1)) (told + if id ∈ tolL cur (t + 1) then 1 else 0) := by
  refine ⟨he, goL_nd h.nd, Nat.le_trans goL_len h.len, ?_⟩
  rcases h.st with ⟨h1, h2, h3⟩ | ⟨h1, h2, h3⟩
  · by_cases hU : U = t + 1
    · refine .inr ⟨by omega, ?_, ?_⟩
      · rw [if_pos (tolL_mem.2 ⟨_, h3, rfl, hU⟩)]; omega
      · intro hm
        obtain ⟨x, hx, e⟩ := mem_ids.1 hm
        obtain ⟨q1, q2⟩ := goL_mem.1 hx
        have := uniq h.nd q1 h3 e
        subst this
        exact q2 hU
    · refine .inl ⟨by omega, ?_, goL_mem.2 ⟨h3, hU⟩⟩
      rw [if_neg (fun hm => ?_)]
      · omega
      · obtain ⟨x, hx, e1, e2⟩ := tolL_mem.1 hm
        have := uniq h.nd hx h3 e1
        subst this
        exact hU e2
  · refine .inr ⟨by omega, ?_, ?_⟩
    · rw [if_neg (fun hm => ?_)]
      · omega
      · obtain ⟨x, hx, e1, e2⟩ := tolL_mem.1 hm
        exact h3 (mem_ids.2 ⟨x, hx, e1⟩)
    · intro hm
      obtain ⟨x, hx, e⟩ := mem_ids.1 hm
      exact h3 (mem_ids.2 ⟨x, (goL_mem.1 hx).1, e⟩)
/-- When it is told, it is told in time. -/
theorem endI_at {w wr : World} {c m s : Nat} {span id tm U t : Int} {cur : List LfT} {told : Int} (h : EndI w wr c m s span id tm U t cur told) (hm : id ∈ tolL cur (t + 1)) : U = t + 1 := by
  obtain ⟨x, hx, e1, e2⟩ := tolL_mem.1 hm
  rcases h.st with ⟨h1, h2, h3⟩ | ⟨h1, h2, h3⟩
  · have := uniq h.nd hx h3 e1
    subst this
    exact e2
  · exact absurd (mem_ids.2 ⟨x, hx, e1⟩) h3

set_option maxHeartbeats 1000000 in
theorem ends_no (span ahead id tm : Int) (v : Value) (w : World) (h : span < 1 ∨ 1000 < span) : Calls Try.prog 3 #[.int .i64 span, .int .i64 ahead, .int .i64 id, .int .i32 tm, v] w fun e w' => e = .returned (.bool true) ∧ Below w.heap.size w w' := by
  have HW : Hid _ := works19 w
  go_enter Try.func3, Try.ntmps3
  go_wp2_with fail
  go_at_call 6
  refine Calls.mono HW.out ?_
  rintro e w1 ⟨rfl, hb1⟩
  have HN : Hid (Calls Try.prog 7 #[.int .i64 span] w1 fun e w' => e = .returned (.tuple #[.pointer none, .int .i64 1]) ∧ Hid (Below w.heap.size w w')) := (new_no span w1 h).mono (fun e w' hh => ⟨hh.1, hb1.trans (hh.2.mono hb1.size)⟩)
  clear HW hb1
  go_wp2_with fail
  go_at_call 7
  refine Calls.mono HN.out ?_
  rintro e w2 ⟨rfl, HB⟩
  clear HN
  by_cases h1 : span < 1
  · have d1 : decide (span < 1) = true := by simp; omega
    clear h h1
    go_wp2
    all_goals (go_ret; exact ⟨rfl, HB.out⟩)
  · have d1 : decide (span < 1) = false := by simp; omega
    have d2 : decide (span > 1000) = true := by simp; omega
    have d3 : decide (1000 < span) = true := by simp; omega
    clear h h1
    go_wp2
    all_goals (go_ret; exact ⟨rfl, HB.out⟩)

set_option maxHeartbeats 2000000 in
theorem ends_yes (span ahead id tm : Int) (v : Value) (l0 : List OpS) (w : World) (hv : SeesOpS w v l0) (h1 : 1 ≤ span) (h2 : span ≤ 1000) (ht : -2147483648 ≤ tm ∧ tm ≤ 2147483647) : Calls Try.prog 3 #[.int .i64 span, .int .i64 ahead, .int .i64 id, .int .i32 tm, v] w fun e w' => e = .returned (.bool true) ∧ Below w.heap.size w w' := by
  have HW : Hid _ := works19 w
  have HV : Hid (SeesOpS w v l0) := hv
  obtain ⟨va, vc, rfl, hvc, -, -⟩ := hv
  obtain ⟨A, hA⟩ : ∃ A, A = fewN ahead := ⟨_, rfl⟩
  have hAb := fewN_b ahead
  rw [← hA] at hAb
  have HF : Hid (∀ V : World, Calls Try.prog 8 #[.int .i64 ahead] V fun e w' => e = .returned (.int .i64 A) ∧ w' = V) := fun V => by rw [hA]; exact few_any ahead V
  clear hA
  go_enter Try.func3, Try.ntmps3
  go_wp2_with fail
  go_at_call 6
  refine Calls.mono HW.out ?_
  rintro e w1 ⟨rfl, hb1⟩
  have HN : Hid _ := en_new span w w1 hb1 h1 h2
  clear HW hb1
  go_wp2_with fail
  go_at_call 7
  refine Calls.mono HN.out ?_
  rintro e w2 ⟨c, m, s, rfl, HE⟩
  clear HN
  go_wp2
  go_loopw [14] (fun vi wr => ∃ i : Nat, (i : Int) ≤ A ∧ vi = .int .i64 (i : Int) ∧ Hid (En w wr c m s (i : Int) span [])) (fun vi _ => 40 - (intOf vi).toNat)
  case atStart => exact ⟨0, by omega, rfl, HE⟩
  case round =>
    obtain ⟨i, hi, rfl, HD⟩ := hrel
    clear HE
    by_cases hlt : (i : Int) < A
    · have hd : decide ((i : Int) < A) = true := by simp; omega
      have HT : Hid _ := en_tick HD.out List.nodup_nil (by simp) (by omega) (by omega)
      go_wp2_with fail
      go_at_call 8
      refine Calls.mono (HF.out wr) ?_
      rintro e w3 ⟨rfl, hw3⟩
      rw [hw3]
      clear hw3 w3
      go_wp2_with fail
      go_at_call 9
      refine Calls.mono HT.out ?_
      rintro e w3 ⟨ua, uc, rfl, HO⟩
      have HO2 : Hid (En w w3 c m s ((i : Int) + 1) span []) := HO.out.2
      clear HT HO HD
      go_wp2
      go_roundw
      case rel => exact ⟨i + 1, by omega, by simp, HO2⟩
      case measure => simp [intOf]; omega
    · have hd : decide ((i : Int) < A) = false := by simp; omega
      have hiA : (i : Int) = A := by omega
      have HE : Hid (En w wr c m s A span []) := by rw [← hiA]; exact HD
      go_wp2_with fail
      go_at_call 8
      refine Calls.mono (HF.out wr) ?_
      rintro e w3 ⟨rfl, hw3⟩
      rw [hw3]
      clear hw3 w3 HD hiA hlt HF
      go_wp2
      clear hd
      go_loopw [15] (fun vi wr => ∃ (j : Nat) (l : List LfT), j ≤ l0.length ∧ j ≤ 30 ∧ vi = .int .i64 (j : Int) ∧ Hid (En w wr c m s A span l ∧ (ids l).Nodup ∧ l.length ≤ j ∧ id ∉ ids l)) (fun vi _ => 30 - (intOf vi).toNat)
      case atStart => exact ⟨0, [], by omega, by omega, rfl, HE.out, List.nodup_nil, by simp, by simp [ids]⟩
      case round =>
        obtain ⟨j, l, hj1, hj2, rfl, HD⟩ := hrel
        clear HE
        by_cases hlt : j < l0.length ∧ j < 30
        · have hd1 : decide ((j : Int) < (l0.length : Int)) = true := by simp; omega
          have hd2 : decide ((j : Int) < 30) = true := by simp; omega
          obtain ⟨x, hx⟩ : ∃ x, l0[j]? = some x := ⟨_, List.getElem?_eq_getElem hlt.1⟩
          obtain ⟨a', c', e1, hcap, hgd, hcl⟩ := HV.out
          simp only [Value.slice.injEq, true_and] at e1
          obtain ⟨rfl, rfl⟩ := e1
          obtain ⟨vb, vo, rfl, hcell⟩ := hcl (fun e => by rw [e] at hx; simp at hx)
          have k2 : wr.cell? ⟨vb, vo + j * 5 + 2, none⟩ = some (.int .i64 x.id) := (Below.kept HD.out.1.bl).cell (hcell j x hx 2 _ rfl) (by have := World.block_lt_of_cell? w _ (hcell j x hx 2 _ rfl); simp at this ⊢; omega)
          have k3 : wr.cell? ⟨vb, vo + j * 5 + 3, none⟩ = some (.int .i32 x.tm) := (Below.kept HD.out.1.bl).cell (hcell j x hx 3 _ rfl) (by have := World.block_lt_of_cell? w _ (hcell j x hx 3 _ rfl); simp at this ⊢; omega)
          have vlt := World.block_lt_of_cell? w _ (hcell j x hx 2 _ rfl)
          have hz : vb < wr.heap.size := World.block_lt_of_cell? wr _ k2
          have jlt : (j : Int) < (l0.length : Int) := by omega
          have jge : (0 : Int) ≤ (j : Int) := by omega
          clear hcl hcell hgd hcap
          cases hne : (x.id != id)
          · have HN : Hid (En w wr c m s A span l ∧ (ids l).Nodup ∧ l.length ≤ j + 1 ∧ id ∉ ids l) := ⟨HD.out.1, HD.out.2.1, by have := HD.out.2.2.1; omega, HD.out.2.2.2⟩
            clear HD vlt
            go_wp2
            go_roundw
            case rel => exact ⟨j + 1, l, by omega, by omega, by simp, HN⟩
            case measure => simp [intOf]; omega
          · have hne' : x.id ≠ id := by simpa using hne
            have HAD : Hid (Calls Try.prog 10 #[.pointer (some ⟨c, 0, none⟩), .int .i64 x.id, .int .i32 x.tm] wr.drew fun e w' => e = .returned (.int .i64 (addE l x.id x.tm)) ∧ Hid (En w w' c m s A span (addL l x.id x.tm (upT (A + x.tm) span)) ∧ (ids (addL l x.id x.tm (upT (A + x.tm) span))).Nodup ∧ (addL l x.id x.tm (upT (A + x.tm) span)).length ≤ j + 1 ∧ id ∉ ids (addL l x.id x.tm (upT (A + x.tm) span))) ∧ w'.cell? ⟨vb, vo + j * 5 + 2, none⟩ = some (.int .i64 x.id) ∧ w'.cell? ⟨vb, vo + j * 5 + 3, none⟩ = some (.int .i32 x.tm)) := by
              refine (add_any (w := wr.drew) (HD.out.1.drewN 1).ck x.id x.tm h1 h2 (by omega) (by omega)).mono (fun e w' hh => ⟨hh.1, ⟨(HD.out.1.drewN 1).turnM hh.2.1 hh.2.2, addL_nd HD.out.2.1, Nat.le_trans addL_len (by have := HD.out.2.2.1; omega), addL_not HD.out.2.2.2 hne'⟩, ?_, ?_⟩)
              · exact hh.2.2.cell (show wr.drew.cell? _ = _ from k2) (by have := HD.out.1.nb m (.inr (.inl rfl)); simp at vlt ⊢; omega)
              · exact hh.2.2.cell (show wr.drew.cell? _ = _ from k3) (by have := HD.out.1.nb m (.inr (.inl rfl)); simp at vlt ⊢; omega)
            have g0 : wr.drew.cell? ⟨vb, vo + j * 5 + 2, none⟩ = some (.int .i64 x.id) ∧ wr.drew.cell? ⟨vb, vo + j * 5 + 3, none⟩ = some (.int .i32 x.tm) := ⟨k2, k3⟩
            clear HD vlt hne'
            go_upto_region 13 with fail
            refine wp_region_held_drew (S := (fun W => W.cell? ⟨vb, vo + j * 5 + 2, none⟩ = some (.int .i64 x.id) ∧ W.cell? ⟨vb, vo + j * 5 + 3, none⟩ = some (.int .i32 x.tm))) (by kernel_rfl) ?_ (fun hHeld => ?_)
            · exact g0
            refine wpAnyH_take (i := 0) (oi := { dst := some 72, op := Op.move (Operand.tmp 12), type := 24, pos := "law.go:188", after := #[], guard := none }) (v := ?_) rfl (by kernel_rfl) (by kernel_rfl) (by kernel_rfl) (fun _ _ _ h => h) (Or.inl ⟨by rfl, ?_⟩) (by assumption) ?_
            rotate_left
            · (intro w hSw; (try dsimp only at hSw); go_simp) <;> with_reducible rfl
            try simp only [Act.put, List.setIfInBounds_toArray, List.set_cons_zero, List.set_cons_succ]
            refine wpAnyH_take (i := 1) (oi := { dst := some 73, op := Op.move (Operand.tmp 4), type := 22, pos := "law.go:188", after := #[], guard := none }) (v := ?_) rfl (by kernel_rfl) (by kernel_rfl) (by kernel_rfl) (fun _ _ _ h => h) (Or.inl ⟨by rfl, ?_⟩) (by assumption) ?_
            rotate_left
            · (intro w hSw; (try dsimp only at hSw); go_simp) <;> with_reducible rfl
            try simp only [Act.put, List.setIfInBounds_toArray, List.set_cons_zero, List.set_cons_succ]
            refine wpAnyH_take (i := 2) (oi := { dst := some 74, op := Op.move (Operand.tmp 15), type := 3, pos := "law.go:188", after := #[], guard := none }) (v := ?_) rfl (by kernel_rfl) (by kernel_rfl) (by kernel_rfl) (fun _ _ _ h => h) (Or.inl ⟨by rfl, ?_⟩) (by assumption) ?_
            rotate_left
            · (intro w hSw; (try dsimp only at hSw); go_simp) <;> with_reducible rfl
            try simp only [Act.put, List.setIfInBounds_toArray, List.set_cons_zero, List.set_cons_succ]
            refine wpAnyH_take (i := 3) (oi := { dst := some 75, op := Op.indexAddr 22 (Operand.tmp 73) (Operand.tmp 74), type := 0, pos := "law.go:188", after := #[{ on := 1, ground := Ground.data }, { on := 2, ground := Ground.data }], guard := none }) (v := ?_) rfl (by kernel_rfl) (by kernel_rfl) (by kernel_rfl) (fun _ _ _ h => h) (Or.inl ⟨by rfl, ?_⟩) (by assumption) ?_
            rotate_left
            · (intro w hSw; (try dsimp only at hSw); go_simp) <;> with_reducible rfl
            try simp only [Act.put, List.setIfInBounds_toArray, List.set_cons_zero, List.set_cons_succ]
            refine wpAnyH_take (i := 4) (oi := { dst := some 76, op := Op.fieldAddr 32 (Operand.tmp 75) 2, type := 0, pos := "law.go:188", after := #[{ on := 3, ground := Ground.data }], guard := none }) (v := ?_) rfl (by kernel_rfl) (by kernel_rfl) (by kernel_rfl) (fun _ _ _ h => h) (Or.inl ⟨by rfl, ?_⟩) (by assumption) ?_
            rotate_left
            · (intro w hSw; (try dsimp only at hSw); go_simp) <;> with_reducible rfl
            try simp only [Act.put, List.setIfInBounds_toArray, List.set_cons_zero, List.set_cons_succ]
            refine wpAnyH_take (i := 5) (oi := { dst := some 77, op := Op.load 2 (Operand.tmp 76), type := 2, pos := "law.go:188", after := #[{ on := 4, ground := Ground.data }], guard := none }) (v := ?_) rfl (by kernel_rfl) (by kernel_rfl) (by kernel_rfl) (fun _ _ _ h => h) (Or.inl ⟨by rfl, ?_⟩) (by assumption) ?_
            rotate_left
            · (intro w hSw; (try dsimp only at hSw); go_simp) <;> with_reducible rfl
            try simp only [Act.put, List.setIfInBounds_toArray, List.set_cons_zero, List.set_cons_succ]
            refine wpAnyH_take (i := 6) (oi := { dst := some 78, op := Op.move (Operand.tmp 4), type := 22, pos := "law.go:188", after := #[], guard := none }) (v := ?_) rfl (by kernel_rfl) (by kernel_rfl) (by kernel_rfl) (fun _ _ _ h => h) (Or.inl ⟨by rfl, ?_⟩) (by assumption) ?_
            rotate_left
            · (intro w hSw; (try dsimp only at hSw); go_simp) <;> with_reducible rfl
            try simp only [Act.put, List.setIfInBounds_toArray, List.set_cons_zero, List.set_cons_succ]
            refine wpAnyH_take (i := 7) (oi := { dst := some 79, op := Op.move (Operand.tmp 15), type := 3, pos := "law.go:188", after := #[], guard := none }) (v := ?_) rfl (by kernel_rfl) (by kernel_rfl) (by kernel_rfl) (fun _ _ _ h => h) (Or.inl ⟨by rfl, ?_⟩) (by assumption) ?_
            rotate_left
            · (intro w hSw; (try dsimp only at hSw); go_simp) <;> with_reducible rfl
            try simp only [Act.put, List.setIfInBounds_toArray, List.set_cons_zero, List.set_cons_succ]
            refine wpAnyH_take (i := 8) (oi := { dst := some 80, op := Op.indexAddr 22 (Operand.tmp 78) (Operand.tmp 79), type := 0, pos := "law.go:188", after := #[{ on := 6, ground := Ground.data }, { on := 7, ground := Ground.data }], guard := none }) (v := ?_) rfl (by kernel_rfl) (by kernel_rfl) (by kernel_rfl) (fun _ _ _ h => h) (Or.inl ⟨by rfl, ?_⟩) (by assumption) ?_
            rotate_left
            · (intro w hSw; (try dsimp only at hSw); go_simp) <;> with_reducible rfl
            try simp only [Act.put, List.setIfInBounds_toArray, List.set_cons_zero, List.set_cons_succ]
            refine wpAnyH_take (i := 9) (oi := { dst := some 81, op := Op.fieldAddr 32 (Operand.tmp 80) 3, type := 0, pos := "law.go:188", after := #[{ on := 8, ground := Ground.data }], guard := none }) (v := ?_) rfl (by kernel_rfl) (by kernel_rfl) (by kernel_rfl) (fun _ _ _ h => h) (Or.inl ⟨by rfl, ?_⟩) (by assumption) ?_
            rotate_left
            · (intro w hSw; (try dsimp only at hSw); go_simp) <;> with_reducible rfl
            try simp only [Act.put, List.setIfInBounds_toArray, List.set_cons_zero, List.set_cons_succ]
            refine wpAnyH_take (i := 10) (oi := { dst := some 82, op := Op.load 21 (Operand.tmp 81), type := 21, pos := "law.go:188", after := #[{ on := 9, ground := Ground.data }], guard := none }) (v := ?_) rfl (by kernel_rfl) (by kernel_rfl) (by kernel_rfl) (fun _ _ _ h => h) (Or.inl ⟨by rfl, ?_⟩) (by assumption) ?_
            rotate_left
            · (intro w hSw; (try dsimp only at hSw); go_simp) <;> with_reducible rfl
            try simp only [Act.put, List.setIfInBounds_toArray, List.set_cons_zero, List.set_cons_succ]
            refine wpAnyH_ready (rs := [11]) (by kernel_rfl) (by simp) ?_
            refine AllReadyH.cons (o := { dst := some 83, op := Op.call { callee := Callee.value (Operand.func 10), args := #[Operand.tmp 72, Operand.tmp 77, Operand.tmp 82], argTypes := #[24, 2, 21] }, type := 25, pos := "law.go:188", after := #[{ on := 0, ground := Ground.data }, { on := 5, ground := Ground.data }, { on := 10, ground := Ground.data }], guard := none }) rfl (fun K hK => ?_) AllReadyH.nil
            go_simp
            refine Calls.mono HAD.out ?_
            rintro e w4 ⟨rfl, HA4, g4⟩
            refine hK.out _ _ g4 (fun hHeld => ?_)
            clear hK K
            refine wpAnyH_done (by kernel_rfl) ?_ _
            clear hHeld
            go_wp2
            go_roundw
            case rel => exact ⟨j + 1, _, by omega, by omega, by simp, HA4⟩
            case measure => simp [intOf]; omega
        · have HE : Hid (En w wr c m s A span l ∧ (ids l).Nodup ∧ l.length ≤ 30 ∧ id ∉ ids l) := ⟨HD.out.1, HD.out.2.1, by have := HD.out.2.2.1; omega, HD.out.2.2.2⟩
          clear HD
          by_cases hjl : j < l0.length
          · have hd1 : decide ((j : Int) < (l0.length : Int)) = true := by simp; omega
            have hd2 : decide ((j : Int) < 30) = false := by simp; omega
            have hd3 : decide (j < l0.length) = true := by simp; omega
            have hd4 : decide (j < 30) = false := by simp; omega
            clear hlt hjl
            have HA : Hid _ := en_add HE.out.1 id tm h1 h2 (by omega) (by omega)
            by_cases hb : id < 1 ∨ tm < 1 ∨ 1000 < tm
            · have e1 : addE l id tm = 1 := by unfold addE; rw [if_pos hb]
              rw [e1] at HA
              go_wp2_with fail
              go_at_call 10
              refine Calls.mono HA.out ?_
              rintro e w4 ⟨rfl, HB⟩
              clear HA HE e1 hd1
              by_cases q1 : id < 1
              · have d1 : decide (id < 1) = true := by simp; omega
                clear hb q1
                go_wp2
                all_goals (go_ret; exact ⟨rfl, HB.out.bl⟩)
              · have d1 : decide (id < 1) = false := by simp; omega
                by_cases q2 : tm < 1
                · have d2 : decide (tm < 1) = true := by simp; omega
                  clear hb q1 q2
                  go_wp2
                  all_goals (go_ret; exact ⟨rfl, HB.out.bl⟩)
                · have d2 : decide (tm < 1) = false := by simp; omega
                  have d3 : decide (tm > 1000) = true := by simp; omega
                  have d4 : decide (1000 < tm) = true := by simp; omega
                  clear hb q1 q2
                  go_wp2
                  all_goals (go_ret; exact ⟨rfl, HB.out.bl⟩)
            · have e1 : addE l id tm = 0 := by unfold addE; rw [if_neg hb, if_neg (fun q => by have := HE.out.2.2.1; omega)]
              have t1 : 1 ≤ tm := by omega
              have t2 : tm ≤ 1000 := by omega
              obtain ⟨U, hU⟩ : ∃ U, U = upT (A + tm) span := ⟨_, rfl⟩
              have hUb := upT_bounds (t := A + tm) (span := span) (by omega) h1
              rw [← hU] at hUb
              have e2 : addL l id tm (upT (A + tm) span) = l ++ [(id, tm, U)] := by unfold addL; rw [if_pos e1, putL_none HE.out.2.2.2, hU]
              rw [e1, e2] at HA
              have HP : Hid ((ids (l ++ [(id, tm, U)])).Nodup ∧ (l ++ [(id, tm, U)]).length ≤ 31) := by
                constructor
                · rw [← putL_none (x := (id, tm, U)) HE.out.2.2.2]; exact putL_nd HE.out.2.1
                · have := HE.out.2.2.1; simp; omega
              obtain ⟨hU1, hU2, -⟩ := hUb
              clear hb e1 e2 hU
              go_wp2_with fail
              go_at_call 10
              refine Calls.mono HA.out ?_
              rintro e w4 ⟨rfl, HB⟩
              have HI : Hid (A = A + ((1 : Nat) : Int) - 1 ∧ EndI w w4 c m s span id tm U A (l ++ [(id, tm, U)]) 0) := ⟨by omega, HB.out, HP.out.1, HP.out.2, .inl ⟨by omega, rfl, by simp⟩⟩
              clear HA HE HB HP hd1
              go_wp2
              go_loopw [16, 17] (fun vt vn wr => ∃ (n : Nat) (told t : Int) (cur : List LfT), 1 ≤ n ∧ (n : Int) ≤ tm + span + 5 ∧ vn = .int .i64 (n : Int) ∧ vt = .int .i64 told ∧ Hid (t = A + (n : Int) - 1 ∧ EndI w wr c m s span id tm U t cur told)) (fun _ vn _ => 3000 - (intOf vn).toNat)
              case atStart => exact ⟨1, 0, A, _, by omega, by omega, rfl, rfl, HI⟩
              case round =>
                obtain ⟨n, told, t, cur, hn1, hn2, rfl, rfl, HD⟩ := hrel
                clear HI
                by_cases hlt : (n : Int) < tm + span + 5
                · have hd : decide ((n : Int) < tm + span + 5) = true := by simp; omega
                  have HT : Hid _ := en_tick HD.out.2.en HD.out.2.nd (by have := HD.out.2.len; omega) (by have := HD.out.1; omega) (by have := HD.out.1; omega)
                  obtain ⟨L, hL⟩ : ∃ L, L = tolL cur (t + 1) := ⟨_, rfl⟩
                  rw [← hL] at HT
                  have HL : Hid (L = tolL cur (t + 1)) := hL
                  have hLl : L.length ≤ 31 := by rw [hL]; exact Nat.le_trans tolL_len HD.out.2.len
                  clear hL
                  go_wp2_with fail
                  go_at_call 9
                  refine Calls.mono HT.out ?_
                  rintro e w5 ⟨ua, uc, rfl, HO⟩
                  clear HT
                  obtain ⟨B, hB⟩ : ∃ B, B = wr.heap.size := ⟨_, rfl⟩
                  have HO2 : Hid (OI w5 B (.slice ua L.length uc) L ∧ En w w5 c m s (t + 1) span (goL cur (t + 1))) := by rw [hB]; exact HO
                  have htb : 0 ≤ told ∧ told ≤ 1 := by rcases HD.out.2.st with ⟨_, q, _⟩ | ⟨_, q, _⟩ <;> omega
                  clear HO hB
                  go_wp2
                  clear hd
                  go_loopw [16, 19] (fun vt vi wz => ∃ (i : Nat) (q : Int), i ≤ L.length ∧ vi = .int .i64 (i : Int) ∧ vt = .int .i64 q ∧ Hid (q = told + inT L i id ∧ OI wz B (.slice ua L.length uc) L ∧ En w wz c m s (t + 1) span (goL cur (t + 1)))) (fun _ vi _ => 40 - (intOf vi).toNat)
                  case atStart => exact ⟨0, told, by omega, rfl, rfl, by rw [inT_0]; omega, HO2.out⟩
                  case round =>
                    obtain ⟨i, q, hi1, rfl, rfl, HQ⟩ := hrel
                    clear HO2
                    have hqb : 0 ≤ q ∧ q ≤ 2 := by have := HQ.out.1; have := inT_b L i id; omega
                    by_cases hil : i < L.length
                    · have hd5 : decide ((i : Int) < (L.length : Int)) = true := by simp; omega
                      have hd6 : decide (i < L.length) = true := by simp; omega
                      obtain ⟨y, hy⟩ : ∃ y, L[i]? = some y := ⟨_, List.getElem?_eq_getElem hil⟩
                      obtain ⟨g, gc, e1, hgc, hyc⟩ := oi_cell HQ.out.2.1 hy
                      simp only [Value.slice.injEq, true_and] at e1
                      obtain ⟨rfl, rfl⟩ := e1
                      have hz : g < wr.heap.size := World.block_lt_of_cell? wr _ hyc
                      have ige : (0 : Int) ≤ (i : Int) := by omega
                      have ilt : (i : Int) < (L.length : Int) := by omega
                      have HY : Hid (L[i]? = some y) := hy
                      cases i with
                      | zero =>
                        clear hy
                        cases hyi : (y == id)
                        · have hyn : y ≠ id := by simpa using hyi
                          have HN : Hid (∀ nq, q = told + inT L (0 + 1) id ∧ OI (wr.drewN nq) B (.slice (some ⟨g, 0, none⟩) L.length uc) L ∧ En w (wr.drewN nq) c m s (t + 1) span (goL cur (t + 1))) := fun nq => ⟨by rw [inT_no HY.out hyn]; exact HQ.out.1, HQ.out.2.1, HQ.out.2.2.drewN nq⟩
                          clear HQ HD HL HY hyn
                          go_wp2
                          go_quiet (fail)
                          go_wp2
                          go_roundw
                          case rel => exact ⟨0 + 1, q, by omega, by simp, rfl, HN.out nq⟩
                          case measure => simp [intOf] <;> omega
                        · have hye : y = id := by simpa using hyi
                          have hUt : U = t + 1 := endI_at HD.out.2 (by rw [← HL.out, ← hye]; exact List.mem_of_getElem? HY.out)
                          have d7 : decide ((n : Int) < tm) = false := by have := HD.out.1; simp; omega
                          have d8 : decide ((n : Int) ≥ tm + span) = false := by have := HD.out.1; simp; omega
                          have d9 : decide (tm + span ≤ (n : Int)) = false := by have := HD.out.1; simp; omega
                          have hpw : L.Pairwise (· < ·) := by rw [HL.out]; exact tolL_up HD.out.2.nd
                          have HN : Hid (∀ nq, q + 1 = told + inT L (0 + 1) id ∧ OI (wr.drewN nq) B (.slice (some ⟨g, 0, none⟩) L.length uc) L ∧ En w (wr.drewN nq) c m s (t + 1) span (goL cur (t + 1))) := fun nq => ⟨by rw [inT_yes hpw HY.out hye]; have := HQ.out.1; omega, HQ.out.2.1, HQ.out.2.2.drewN nq⟩
                          clear HQ HD HL HY hye hUt hpw
                          go_wp2
                          go_quiet (fail)
                          go_wp2
                          go_roundw
                          case rel => exact ⟨0 + 1, q + 1, by omega, by simp, rfl, HN.out nq⟩
                          case measure => simp [intOf] <;> omega
                      | succ k =>
                        obtain ⟨z, hzz⟩ : ∃ z, L[k]? = some z := ⟨_, List.getElem?_eq_getElem (by omega)⟩
                        obtain ⟨g', gc', e1', _, hzc⟩ := oi_cell HQ.out.2.1 hzz
                        simp only [Value.slice.injEq, Option.some.injEq, Addr.mk.injEq, and_true, true_and] at e1'
                        obtain ⟨rfl, rfl⟩ := e1'
                        have hzy : z < y := by
                          have q1 := hy
                          have q2 := hzz
                          rw [HL.out] at q1 q2
                          exact tolL_lt HD.out.2.nd q2 q1
                        have d5 : decide (y ≤ z) = false := by simp; omega
                        have kge : (0 : Int) ≤ (k : Int) := by omega
                        have klt : (k : Int) < (L.length : Int) := by omega
                        have d6 : decide (((k + 1 : Nat) : Int) > 0) = true := by simp <;> omega
                        have d6' : decide ((0 : Int) < (k : Int) + 1) = true := by simp <;> omega
                        clear hy hzz hzy
                        cases hyi : (y == id)
                        · have hyn : y ≠ id := by simpa using hyi
                          have HN : Hid (∀ nq, q = told + inT L ((k + 1) + 1) id ∧ OI (wr.drewN nq) B (.slice (some ⟨g, 0, none⟩) L.length uc) L ∧ En w (wr.drewN nq) c m s (t + 1) span (goL cur (t + 1))) := fun nq => ⟨by rw [inT_no HY.out hyn]; exact HQ.out.1, HQ.out.2.1, HQ.out.2.2.drewN nq⟩
                          clear HQ HD HL HY hyn
                          go_wp2
                          go_quiet (fail)
                          go_wp2
                          go_roundw
                          case rel => exact ⟨(k + 1) + 1, q, by omega, by simp, rfl, HN.out nq⟩
                          case measure => simp [intOf] <;> omega
                        · have hye : y = id := by simpa using hyi
                          have hUt : U = t + 1 := endI_at HD.out.2 (by rw [← HL.out, ← hye]; exact List.mem_of_getElem? HY.out)
                          have d7 : decide ((n : Int) < tm) = false := by have := HD.out.1; simp; omega
                          have d8 : decide ((n : Int) ≥ tm + span) = false := by have := HD.out.1; simp; omega
                          have d9 : decide (tm + span ≤ (n : Int)) = false := by have := HD.out.1; simp; omega
                          have hpw : L.Pairwise (· < ·) := by rw [HL.out]; exact tolL_up HD.out.2.nd
                          have HN : Hid (∀ nq, q + 1 = told + inT L ((k + 1) + 1) id ∧ OI (wr.drewN nq) B (.slice (some ⟨g, 0, none⟩) L.length uc) L ∧ En w (wr.drewN nq) c m s (t + 1) span (goL cur (t + 1))) := fun nq => ⟨by rw [inT_yes hpw HY.out hye]; have := HQ.out.1; omega, HQ.out.2.1, HQ.out.2.2.drewN nq⟩
                          clear HQ HD HL HY hye hUt hpw
                          go_wp2
                          go_quiet (fail)
                          go_wp2
                          go_roundw
                          case rel => exact ⟨(k + 1) + 1, q + 1, by omega, by simp, rfl, HN.out nq⟩
                          case measure => simp [intOf] <;> omega
                    · have hd5 : decide ((i : Int) < (L.length : Int)) = false := by simp; omega
                      have hd6 : decide (i < L.length) = false := by simp; omega
                      have HN : Hid (t + 1 = A + ((n + 1 : Nat) : Int) - 1 ∧ EndI w wr c m s span id tm U (t + 1) (goL cur (t + 1)) q) := by
                        refine ⟨by have := HD.out.1; omega, ?_⟩
                        have := endI_step HD.out.2 HQ.out.2.2
                        rw [← HL.out, ← inT_end (show L.length ≤ i by omega), ← HQ.out.1] at this
                        exact this
                      clear HQ HD HL
                      go_wp2
                      exact ⟨⟨n + 1, q, t + 1, _, by omega, by omega, by simp, rfl, HN⟩, by simp [intOf]; omega⟩
                · have hd : decide ((n : Int) < tm + span + 5) = false := by simp; omega
                  obtain ⟨hg, rfl⟩ : getL cur id = none ∧ told = 1 := by
                    have q1 := HD.out.1
                    rcases HD.out.2.st with ⟨q2, _, _⟩ | ⟨_, q3, q4⟩
                    · omega
                    · exact ⟨getL_none.1 q4, q3⟩
                  have HU : Hid _ := en_due HD.out.2.en id
                  rw [hg] at HU
                  go_wp2_with fail
                  go_at_call 11
                  refine Calls.mono HU.out ?_
                  rintro e w5 ⟨rfl, H5⟩
                  have HT : Hid _ := en_touch_no H5.out id hg
                  clear HU HD H5
                  go_wp2_with fail
                  go_at_call 12
                  refine Calls.mono HT.out ?_
                  rintro e w6 ⟨rfl, H6⟩
                  clear HT
                  go_wp2
                  all_goals (go_ret; exact ⟨rfl, H6.out.bl⟩)
          · have hd1 : decide ((j : Int) < (l0.length : Int)) = false := by simp; omega
            have hd3 : decide (j < l0.length) = false := by simp; omega
            clear hlt hjl
            have HA : Hid _ := en_add HE.out.1 id tm h1 h2 (by omega) (by omega)
            by_cases hb : id < 1 ∨ tm < 1 ∨ 1000 < tm
            · have e1 : addE l id tm = 1 := by unfold addE; rw [if_pos hb]
              rw [e1] at HA
              go_wp2_with fail
              go_at_call 10
              refine Calls.mono HA.out ?_
              rintro e w4 ⟨rfl, HB⟩
              clear HA HE e1 hd1
              by_cases q1 : id < 1
              · have d1 : decide (id < 1) = true := by simp; omega
                clear hb q1
                go_wp2
                all_goals (go_ret; exact ⟨rfl, HB.out.bl⟩)
              · have d1 : decide (id < 1) = false := by simp; omega
                by_cases q2 : tm < 1
                · have d2 : decide (tm < 1) = true := by simp; omega
                  clear hb q1 q2
                  go_wp2
                  all_goals (go_ret; exact ⟨rfl, HB.out.bl⟩)
                · have d2 : decide (tm < 1) = false := by simp; omega
                  have d3 : decide (tm > 1000) = true := by simp; omega
                  have d4 : decide (1000 < tm) = true := by simp; omega
                  clear hb q1 q2
                  go_wp2
                  all_goals (go_ret; exact ⟨rfl, HB.out.bl⟩)
            · have e1 : addE l id tm = 0 := by unfold addE; rw [if_neg hb, if_neg (fun q => by have := HE.out.2.2.1; omega)]
              have t1 : 1 ≤ tm := by omega
              have t2 : tm ≤ 1000 := by omega
              obtain ⟨U, hU⟩ : ∃ U, U = upT (A + tm) span := ⟨_, rfl⟩
              have hUb := upT_bounds (t := A + tm) (span := span) (by omega) h1
              rw [← hU] at hUb
              have e2 : addL l id tm (upT (A + tm) span) = l ++ [(id, tm, U)] := by unfold addL; rw [if_pos e1, putL_none HE.out.2.2.2, hU]
              rw [e1, e2] at HA
              have HP : Hid ((ids (l ++ [(id, tm, U)])).Nodup ∧ (l ++ [(id, tm, U)]).length ≤ 31) := by
                constructor
                · rw [← putL_none (x := (id, tm, U)) HE.out.2.2.2]; exact putL_nd HE.out.2.1
                · have := HE.out.2.2.1; simp; omega
              obtain ⟨hU1, hU2, -⟩ := hUb
              clear hb e1 e2 hU
              go_wp2_with fail
              go_at_call 10
              refine Calls.mono HA.out ?_
              rintro e w4 ⟨rfl, HB⟩
              have HI : Hid (A = A + ((1 : Nat) : Int) - 1 ∧ EndI w w4 c m s span id tm U A (l ++ [(id, tm, U)]) 0) := ⟨by omega, HB.out, HP.out.1, HP.out.2, .inl ⟨by omega, rfl, by simp⟩⟩
              clear HA HE HB HP hd1
              go_wp2
              go_loopw [16, 17] (fun vt vn wr => ∃ (n : Nat) (told t : Int) (cur : List LfT), 1 ≤ n ∧ (n : Int) ≤ tm + span + 5 ∧ vn = .int .i64 (n : Int) ∧ vt = .int .i64 told ∧ Hid (t = A + (n : Int) - 1 ∧ EndI w wr c m s span id tm U t cur told)) (fun _ vn _ => 3000 - (intOf vn).toNat)
              case atStart => exact ⟨1, 0, A, _, by omega, by omega, rfl, rfl, HI⟩
              case round =>
                obtain ⟨n, told, t, cur, hn1, hn2, rfl, rfl, HD⟩ := hrel
                clear HI
                by_cases hlt : (n : Int) < tm + span + 5
                · have hd : decide ((n : Int) < tm + span + 5) = true := by simp; omega
                  have HT : Hid _ := en_tick HD.out.2.en HD.out.2.nd (by have := HD.out.2.len; omega) (by have := HD.out.1; omega) (by have := HD.out.1; omega)
                  obtain ⟨L, hL⟩ : ∃ L, L = tolL cur (t + 1) := ⟨_, rfl⟩
                  rw [← hL] at HT
                  have HL : Hid (L = tolL cur (t + 1)) := hL
                  have hLl : L.length ≤ 31 := by rw [hL]; exact Nat.le_trans tolL_len HD.out.2.len
                  clear hL
                  go_wp2_with fail
                  go_at_call 9
                  refine Calls.mono HT.out ?_
                  rintro e w5 ⟨ua, uc, rfl, HO⟩
                  clear HT
                  obtain ⟨B, hB⟩ : ∃ B, B = wr.heap.size := ⟨_, rfl⟩
                  have HO2 : Hid (OI w5 B (.slice ua L.length uc) L ∧ En w w5 c m s (t + 1) span (goL cur (t + 1))) := by rw [hB]; exact HO
                  have htb : 0 ≤ told ∧ told ≤ 1 := by rcases HD.out.2.st with ⟨_, q, _⟩ | ⟨_, q, _⟩ <;> omega
                  clear HO hB
                  go_wp2
                  clear hd
                  go_loopw [16, 19] (fun vt vi wz => ∃ (i : Nat) (q : Int), i ≤ L.length ∧ vi = .int .i64 (i : Int) ∧ vt = .int .i64 q ∧ Hid (q = told + inT L i id ∧ OI wz B (.slice ua L.length uc) L ∧ En w wz c m s (t + 1) span (goL cur (t + 1)))) (fun _ vi _ => 40 - (intOf vi).toNat)
                  case atStart => exact ⟨0, told, by omega, rfl, rfl, by rw [inT_0]; omega, HO2.out⟩
                  case round =>
                    obtain ⟨i, q, hi1, rfl, rfl, HQ⟩ := hrel
                    clear HO2
                    have hqb : 0 ≤ q ∧ q ≤ 2 := by have := HQ.out.1; have := inT_b L i id; omega
                    by_cases hil : i < L.length
                    · have hd5 : decide ((i : Int) < (L.length : Int)) = true := by simp; omega
                      have hd6 : decide (i < L.length) = true := by simp; omega
                      obtain ⟨y, hy⟩ : ∃ y, L[i]? = some y := ⟨_, List.getElem?_eq_getElem hil⟩
                      obtain ⟨g, gc, e1, hgc, hyc⟩ := oi_cell HQ.out.2.1 hy
                      simp only [Value.slice.injEq, true_and] at e1
                      obtain ⟨rfl, rfl⟩ := e1
                      have hz : g < wr.heap.size := World.block_lt_of_cell? wr _ hyc
                      have ige : (0 : Int) ≤ (i : Int) := by omega
                      have ilt : (i : Int) < (L.length : Int) := by omega
                      have HY : Hid (L[i]? = some y) := hy
                      cases i with
                      | zero =>
                        clear hy
                        cases hyi : (y == id)
                        · have hyn : y ≠ id := by simpa using hyi
                          have HN : Hid (∀ nq, q = told + inT L (0 + 1) id ∧ OI (wr.drewN nq) B (.slice (some ⟨g, 0, none⟩) L.length uc) L ∧ En w (wr.drewN nq) c m s (t + 1) span (goL cur (t + 1))) := fun nq => ⟨by rw [inT_no HY.out hyn]; exact HQ.out.1, HQ.out.2.1, HQ.out.2.2.drewN nq⟩
                          clear HQ HD HL HY hyn
                          go_wp2
                          go_quiet (fail)
                          go_wp2
                          go_roundw
                          case rel => exact ⟨0 + 1, q, by omega, by simp, rfl, HN.out nq⟩
                          case measure => simp [intOf] <;> omega
                        · have hye : y = id := by simpa using hyi
                          have hUt : U = t + 1 := endI_at HD.out.2 (by rw [← HL.out, ← hye]; exact List.mem_of_getElem? HY.out)
                          have d7 : decide ((n : Int) < tm) = false := by have := HD.out.1; simp; omega
                          have d8 : decide ((n : Int) ≥ tm + span) = false := by have := HD.out.1; simp; omega
                          have d9 : decide (tm + span ≤ (n : Int)) = false := by have := HD.out.1; simp; omega
                          have hpw : L.Pairwise (· < ·) := by rw [HL.out]; exact tolL_up HD.out.2.nd
                          have HN : Hid (∀ nq, q + 1 = told + inT L (0 + 1) id ∧ OI (wr.drewN nq) B (.slice (some ⟨g, 0, none⟩) L.length uc) L ∧ En w (wr.drewN nq) c m s (t + 1) span (goL cur (t + 1))) := fun nq => ⟨by rw [inT_yes hpw HY.out hye]; have := HQ.out.1; omega, HQ.out.2.1, HQ.out.2.2.drewN nq⟩
                          clear HQ HD HL HY hye hUt hpw
                          go_wp2
                          go_quiet (fail)
                          go_wp2
                          go_roundw
                          case rel => exact ⟨0 + 1, q + 1, by omega, by simp, rfl, HN.out nq⟩
                          case measure => simp [intOf] <;> omega
                      | succ k =>
                        obtain ⟨z, hzz⟩ : ∃ z, L[k]? = some z := ⟨_, List.getElem?_eq_getElem (by omega)⟩
                        obtain ⟨g', gc', e1', _, hzc⟩ := oi_cell HQ.out.2.1 hzz
                        simp only [Value.slice.injEq, Option.some.injEq, Addr.mk.injEq, and_true, true_and] at e1'
                        obtain ⟨rfl, rfl⟩ := e1'
                        have hzy : z < y := by
                          have q1 := hy
                          have q2 := hzz
                          rw [HL.out] at q1 q2
                          exact tolL_lt HD.out.2.nd q2 q1
                        have d5 : decide (y ≤ z) = false := by simp; omega
                        have kge : (0 : Int) ≤ (k : Int) := by omega
                        have klt : (k : Int) < (L.length : Int) := by omega
                        have d6 : decide (((k + 1 : Nat) : Int) > 0) = true := by simp <;> omega
                        have d6' : decide ((0 : Int) < (k : Int) + 1) = true := by simp <;> omega
                        clear hy hzz hzy
                        cases hyi : (y == id)
                        · have hyn : y ≠ id := by simpa using hyi
                          have HN : Hid (∀ nq, q = told + inT L ((k + 1) + 1) id ∧ OI (wr.drewN nq) B (.slice (some ⟨g, 0, none⟩) L.length uc) L ∧ En w (wr.drewN nq) c m s (t + 1) span (goL cur (t + 1))) := fun nq => ⟨by rw [inT_no HY.out hyn]; exact HQ.out.1, HQ.out.2.1, HQ.out.2.2.drewN nq⟩
                          clear HQ HD HL HY hyn
                          go_wp2
                          go_quiet (fail)
                          go_wp2
                          go_roundw
                          case rel => exact ⟨(k + 1) + 1, q, by omega, by simp, rfl, HN.out nq⟩
                          case measure => simp [intOf] <;> omega
                        · have hye : y = id := by simpa using hyi
                          have hUt : U = t + 1 := endI_at HD.out.2 (by rw [← HL.out, ← hye]; exact List.mem_of_getElem? HY.out)
                          have d7 : decide ((n : Int) < tm) = false := by have := HD.out.1; simp; omega
                          have d8 : decide ((n : Int) ≥ tm + span) = false := by have := HD.out.1; simp; omega
                          have d9 : decide (tm + span ≤ (n : Int)) = false := by have := HD.out.1; simp; omega
                          have hpw : L.Pairwise (· < ·) := by rw [HL.out]; exact tolL_up HD.out.2.nd
                          have HN : Hid (∀ nq, q + 1 = told + inT L ((k + 1) + 1) id ∧ OI (wr.drewN nq) B (.slice (some ⟨g, 0, none⟩) L.length uc) L ∧ En w (wr.drewN nq) c m s (t + 1) span (goL cur (t + 1))) := fun nq => ⟨by rw [inT_yes hpw HY.out hye]; have := HQ.out.1; omega, HQ.out.2.1, HQ.out.2.2.drewN nq⟩
                          clear HQ HD HL HY hye hUt hpw
                          go_wp2
                          go_quiet (fail)
                          go_wp2
                          go_roundw
                          case rel => exact ⟨(k + 1) + 1, q + 1, by omega, by simp, rfl, HN.out nq⟩
                          case measure => simp [intOf] <;> omega
                    · have hd5 : decide ((i : Int) < (L.length : Int)) = false := by simp; omega
                      have hd6 : decide (i < L.length) = false := by simp; omega
                      have HN : Hid (t + 1 = A + ((n + 1 : Nat) : Int) - 1 ∧ EndI w wr c m s span id tm U (t + 1) (goL cur (t + 1)) q) := by
                        refine ⟨by have := HD.out.1; omega, ?_⟩
                        have := endI_step HD.out.2 HQ.out.2.2
                        rw [← HL.out, ← inT_end (show L.length ≤ i by omega), ← HQ.out.1] at this
                        exact this
                      clear HQ HD HL
                      go_wp2
                      exact ⟨⟨n + 1, q, t + 1, _, by omega, by omega, by simp, rfl, HN⟩, by simp [intOf]; omega⟩
                · have hd : decide ((n : Int) < tm + span + 5) = false := by simp; omega
                  obtain ⟨hg, rfl⟩ : getL cur id = none ∧ told = 1 := by
                    have q1 := HD.out.1
                    rcases HD.out.2.st with ⟨q2, _, _⟩ | ⟨_, q3, q4⟩
                    · omega
                    · exact ⟨getL_none.1 q4, q3⟩
                  have HU : Hid _ := en_due HD.out.2.en id
                  rw [hg] at HU
                  go_wp2_with fail
                  go_at_call 11
                  refine Calls.mono HU.out ?_
                  rintro e w5 ⟨rfl, H5⟩
                  have HT : Hid _ := en_touch_no H5.out id hg
                  clear HU HD H5
                  go_wp2_with fail
                  go_at_call 12
                  refine Calls.mono HT.out ?_
                  rintro e w6 ⟨rfl, H6⟩
                  clear HT
                  go_wp2
                  all_goals (go_ret; exact ⟨rfl, H6.out.bl⟩)

end Go.Proofs.Ytmohpcoiobcncaa
