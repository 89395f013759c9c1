/- What a board's meet answers. -/
import Derived.Test.YtkcapiblicfboaaGreatDoorWaLJ
import Derived.WalkMore
namespace Go.Proofs.YtkcapiblicfboaaGreatDoor
open Go.RowKit Go.Shelf
set_option maxRecDepth 8000
set_option linter.unusedSimpArgs false

/-- Does a change meet a watch? Does it go then? -/
def metB (c : ChT) (x : WaT) : Bool := if x.2.1 = 1 then smP c x.2.2 && (c.1 != 4) else if x.2.1 = 2 then smP c x.2.2 && ((c.1 == 2) || (c.1 == 4)) else if x.2.1 = 3 then smP c x.2.2 else (c.1 != 4) && (smP c x.2.2 || belowB c.2.data.toList x.2.2.data.toList)
def goB (x : WaT) : Bool := decide (x.2.1 ≤ 2)
def stayB (c : ChT) (x : WaT) : Bool := !(metB c x && goB x)

abbrev fiCs (c : ChT) (x : WaT) : Array Value := #[.int .i64 x.1, .int .i8 x.2.1, .string x.2.2, .int .i8 c.1, .string c.2]
def fiFlat (c : ChT) : List WaT → List Value
  | [] => []
  | x :: r => .int .i64 x.1 :: .int .i8 x.2.1 :: .string x.2.2 :: .int .i8 c.1 :: .string c.2 :: fiFlat c r
theorem fiFlat_len (c : ChT) : ∀ l : List WaT, (fiFlat c l).length = l.length * 5
  | [] => rfl
  | x :: r => by simp [fiFlat, fiFlat_len c r]; omega
theorem fiFlat_app (c : ChT) : ∀ (l m : List WaT), fiFlat c (l ++ m) = fiFlat c l ++ fiFlat c m
  | [], _ => rfl
  | x :: r, m => by simp [fiFlat, fiFlat_app c r m]
theorem Tryz.infoFi : (Tryz.prog.info? 77).map (fun i => (i.zero, i.size, i.bytes)) = some (some (.agg #[.int .i64 0, .int .i8 0, .string ⟨#[]⟩, .int .i8 0, .string ⟨#[]⟩]), 5, 56) := by kernel_rfl

/-- One more told behind a list of one's own. -/
theorem app_fi {w : World} {base m : Nat} {v : Value} {l : List WaT} (c : ChT) {x : WaT} (ho : w.ownsRow base 77 5 v l.length (fiFlat c l)) (hm : w.heap[m]? = some (.cells (fiCs c x) 77 (0, 0))) (hl : l.length ≤ 2000000000) (hb : base ≤ w.heap.size) :
    ∃ v' w', (∀ ty, (Builtin.append_ #[63, 63] ty #[v, .slice (some ⟨m, 0, none⟩) 1 1]).run Tryz.prog w = .ok v' w') ∧ w'.ownsRow base 77 5 v' (l ++ [x]).length (fiFlat c (l ++ [x])) ∧ Kept w w' (fun k => v.ownBlock = some k) := by
  obtain ⟨i, hi, hz, hs, hby⟩ := infoX Tryz.infoFi
  obtain ⟨v', w', h1, h2, h3, h4⟩ := app_row (P := Tryz.prog) base 63 63 77 i _ 5 56 Tryz.underlying63 hi hz hs hby rfl (by decide) v l.length (fiFlat c l) ho m (fiFlat c [x]) rfl hm (by simp [fiFlat, Value.oneCell']) hl (by decide) hb
  refine ⟨v', w', fun ty => h1, ?_, ⟨h3.os, h3.tape, h3.output, h3.size, fun k hk hn => h3.block k hk (fun e => hn e.symm)⟩⟩
  rw [List.length_append, fiFlat_app]
  exact h2

theorem row_lower {w : World} {base base' : Nat} {T : TypeId} {z n : Nat} {v : Value} {xs : List Value} (h : w.ownsRow base T z v n xs) (hb : base' ≤ base) : w.ownsRow base' T z v n xs := by
  obtain ⟨h1, h2 | ⟨g, cap, cur, rfl, a2, a3⟩⟩ := h
  · exact ⟨h1, .inl h2⟩
  · exact ⟨h1, .inr ⟨g, cap, cur, rfl, Nat.le_trans hb a2, a3⟩⟩
theorem filt_no {p : WaT → Bool} {l : List WaT} {i : Nat} {x : WaT} (hx : l[i]? = some x) (hp : p x = false) : (l.take (i + 1)).filter p = (l.take i).filter p := by
  rw [take_at hx, List.filter_append]; simp [hp]
theorem filt_yes {p : WaT → Bool} {l : List WaT} {i : Nat} {x : WaT} (hx : l[i]? = some x) (hp : p x = true) : (l.take (i + 1)).filter p = (l.take i).filter p ++ [x] := by
  rw [take_at hx, List.filter_append]; simp [hp]

/-- How far meet has come. -/
structure MeetI (w wr : World) (b m : Nat) (v : Value) (l : List WaT) (c : ChT) (vs : Value) (i : Nat) : Prop where
  bo : Bo wr b m v l (left (stayB c) l i)
  told : wr.ownsRow (w.heap.size + 1) 77 5 vs ((l.take i).filter (metB c)).length (fiFlat c ((l.take i).filter (metB c)))
  kept : Kept w wr (fun k => k = m)
  box : wr.heap[w.heap.size]? = some (.cells (chCs c) 59 (0, 0))
theorem MeetI.below {w wr w' : World} {b m : Nat} {v : Value} {l : List WaT} {c : ChT} {vs : Value} {i : Nat} (h : MeetI w wr b m v l c vs i) (hB : Below wr.heap.size wr w') : MeetI w w' b m v l c vs i :=
  ⟨h.bo.below hB, rowK h.told (Below.kept hB) (fun k hk => by have := (h.told.lt k hk).2; omega), h.kept.trans (Below.kept hB) (fun k h1 h2 => by have := h.kept.size; omega), box_later h.box hB⟩
/-- A watch that the change does not meet. -/
theorem MeetI.pass {w wr : World} {b m : Nat} {v : Value} {l : List WaT} {c : ChT} {vs : Value} {i : Nat} {x : WaT} (h : MeetI w wr b m v l c vs i) (hx : l[i]? = some x) (hm : metB c x = false) : MeetI w wr b m v l c vs (i + 1) :=
  ⟨by rw [left_yes hx (by unfold stayB; rw [hm]; rfl)]; exact h.bo, by rw [filt_no hx hm]; exact h.told, h.kept, h.box⟩
/-- A watch that is told: the append. -/
theorem MeetI.app {w wr : World} {b m : Nat} {v : Value} {l : List WaT} {c : ChT} {vs : Value} {i : Nat} {x : WaT} (h0 : Bo w b m v l l) (h : MeetI w wr b m v l c vs i) (hx : l[i]? = some x) (hm : metB c x = true) (hl : l.length ≤ 1000) :
    ∃ vo' ln vc' w', (∀ ty, (Builtin.append_ #[63, 63] ty #[vs, .slice (some ⟨wr.heap.size, 0, none⟩) 1 1]).run Tryz.prog (wr.alloc (.cells (fiCs c x) 77)) = .ok (.slice vo' ln vc') w') ∧ Bo w' b m v l (left (stayB c) l i) ∧ w'.ownsRow (w.heap.size + 1) 77 5 (.slice vo' ln vc') ((l.take (i + 1)).filter (metB c)).length (fiFlat c ((l.take (i + 1)).filter (metB c))) ∧ Kept w w' (fun k => k = m) ∧ w'.heap[w.heap.size]? = some (.cells (chCs c) 59 (0, 0)) ∧ ∀ k o, wr.heap[k]? = some o → vs.ownBlock ≠ some k → w'.heap[k]? = some o := by
  have B1 : Below wr.heap.size wr (wr.alloc (.cells (fiCs c x) 77)) := (Below.refl _ _).alloc (Nat.le_refl _) _
  have h1 := h.below B1
  have hbx := lt_of_block h.box
  obtain ⟨v', w', hr, ho, hk⟩ := app_fi c (x := x) h1.told (heap_alloc_new wr _) (Nat.le_trans (List.length_filter_le _ _) (by rw [List.length_take]; omega)) (by simp; omega)
  obtain ⟨vo', ln, vc', rfl⟩ : ∃ a n c, v' = .slice a n c := by
    obtain ⟨a, c, e⟩ := rowS ho
    exact ⟨a, _, c, e⟩
  have hap : ∀ k, Ft b m v k → vs.ownBlock ≠ some k := fun k hf hs => by
    have := (h.told.lt k hs).1
    have := h0.lt hf
    omega
  refine ⟨vo', ln, vc', w', hr, h1.bo.kept hk hap, by rw [filt_yes hx hm]; exact ho, h1.kept.trans hk (fun k q1 q2 => by have := (h.told.lt k q2).1; omega), hk.heap h1.box (fun hs => by have := (h.told.lt _ hs).1; omega), fun k o hko hn => hk.heap (box_later hko B1) hn⟩

theorem metKind {c : ChT} {cl : Int} {p : ByteArray} : metB c (cl, 1, p) = (smP c p && (c.1 != 4)) ∧ metB c (cl, 2, p) = (smP c p && ((c.1 == 2) || (c.1 == 4))) ∧ metB c (cl, 3, p) = smP c p ∧ metB c (cl, 4, p) = ((c.1 != 4) && (smP c p || belowB c.2.data.toList p.data.toList)) := by
  refine ⟨?_, ?_, ?_, ?_⟩ <;> simp [metB]

set_option maxHeartbeats 4000000 in
theorem meet_any {w : World} {b m : Nat} {v : Value} {l : List WaT} (c : ChT) (h : Bo w b m v l l) (hl : l.length ≤ 1000) (hnd : l.Nodup) (hkk : ∀ x ∈ l, x.2.1 = 1 ∨ x.2.1 = 2 ∨ x.2.1 = 3 ∨ x.2.1 = 4) (hcl : c.2.size ≤ 4294967296) :
    Calls Tryz.prog 51 #[.pointer (some ⟨b, 0, none⟩), .agg (chCs c)] w fun e w' => ∃ u, e = .returned u ∧ w'.ownsRow w.heap.size 77 5 u (l.filter (metB c)).length (fiFlat c (l.filter (metB c))) ∧ Bo w' b m v l (l.filter (stayB c)) ∧ Kept w w' (fun k => k = m) := by
  have HH : Hid (Bo w b m v l l ∧ l.Nodup ∧ ∀ x ∈ l, x.2.1 = 1 ∨ x.2.1 = 2 ∨ x.2.1 = 3 ∨ x.2.1 = 4) := ⟨h, hnd, hkk⟩
  have c0 := h.c0
  have hz := lt_of_block h.hb
  obtain ⟨vo, vc, rfl⟩ := rowS h.ho
  have H0 : Hid (MeetI w (w.alloc (.cells (chCs c) 59)) b m (.slice vo l.length vc) l c (.slice none 0 0) 0) := by
    refine ⟨?_, World.ownsRow_nil _ _ _ _, (Kept.refl _ _).alloc _, heap_alloc_new w _⟩
    have := h.below ((Below.refl _ w).alloc (Nat.le_refl _) (.cells (chCs c) 59 (0, 0)))
    simpa [left] using this
  clear h hnd hkk
  go_enter Tryz.func51, Tryz.ntmps51
  go_wp2
  go_step3
  go_wp2
  go_step3
  go_wp2
  go_loopw [5, 14] (fun vs vi wr => ∃ i : Nat, i ≤ l.length ∧ vi = .int .i64 (i : Int) ∧ Hid (MeetI w wr b m (.slice vo l.length vc) l c vs i)) (fun _ vi _ => l.length - (intOf vi).toNat)
  case atStart => exact ⟨0, by omega, rfl, H0⟩
  case round =>
    obtain ⟨i, hi, rfl, HD⟩ := hrel
    clear c0 H0
    by_cases hlt : i < l.length
    · have hd : decide ((i : Int) < (l.length : Int)) = true := by simp; omega
      obtain ⟨⟨cl, kd, p⟩, hx⟩ : ∃ x, l[i]? = some x := ⟨_, List.getElem?_eq_getElem hlt⟩
      obtain ⟨ao, cap, he, hcap, hc⟩ := SW_owns HD.out.bo.ho
      simp only [Value.slice.injEq, true_and] at he
      obtain ⟨rfl, rfl⟩ := he
      obtain ⟨b0, off, hao, hcx⟩ := hc (fun e => by rw [e] at hlt; simp at hlt)
      obtain ⟨k0, k1, k2⟩ := hcx i _ hx
      subst hao
      have B1 : Below wr.heap.size wr (wr.alloc (.cells (waCs (cl, kd, p)) 57)) := (Below.refl _ _).alloc (Nat.le_refl _) _
      have h1 := HD.out.below B1
      have hbx : (wr.alloc (.cells (waCs (cl, kd, p)) 57)).heap[wr.heap.size]? = some (.cells (waCs (cl, kd, p)) 57 (0, 0)) := heap_alloc_new wr _
      have hlk : ∀ n, (Instr.lookup 78 (.map (some m)) (.agg #[.int .i64 cl, .int .i8 kd, .string p]) false).run Tryz.prog ((wr.alloc (.cells (waCs (cl, kd, p)) 57)).drewN n) = .ok (wishV (cl, kd, p)) ((wr.alloc (.cells (waCs (cl, kd, p)) 57)).drewN n) := fun n => look_some (w := (wr.alloc (.cells (waCs (cl, kd, p)) 57)).drewN n) (by have := h1.bo.hm; rw [left_is hx] at this; exact this) (fun hm => nodup_mid HH.out.2.1 hx (List.mem_filter.1 hm).1) false
      have qc1 := cell_of_row _ w.heap.size 0 _ _ _ h1.box
      have qc2 := cell_of_row _ w.heap.size 1 _ _ _ h1.box
      have c1 := h1.bo.c1
      have d0 := cell_of_row _ wr.heap.size 0 _ _ _ hbx
      have d1 := cell_of_row _ wr.heap.size 1 _ _ _ hbx
      have d2 := cell_of_row _ wr.heap.size 2 _ _ _ hbx
      have z1 := lt_of_block h1.bo.hb
      have z2 := lt_of_block hbx
      have z3 := lt_of_block h1.box
      have HV : Hid (MeetI w (wr.alloc (.cells (waCs (cl, kd, p)) 57)) b m (.slice (some ⟨b0, off, none⟩) l.length vc) l c u5 i ∧ l[i]? = some (cl, kd, p) ∧ (wr.alloc (.cells (waCs (cl, kd, p)) 57)).heap[wr.heap.size]? = some (.cells (waCs (cl, kd, p)) 57 (0, 0)) ∧ w.heap.size < wr.heap.size ∧ u5.ownBlock ≠ some wr.heap.size) := ⟨h1, hx, hbx, lt_of_block HD.out.box, fun e => by have := (HD.out.told.lt _ e).2; omega⟩
      have hkd := HH.out.2.2 _ (List.mem_of_getElem? hx)
      clear h1 hbx hcx hc B1 HD hx
      rcases hkd with hkd | hkd | hkd | hkd
      · replace hkd : kd = 1 := hkd
        subst hkd
        have hme : ∀ (n : Nat) (W : World), (method (n + 1) 190 (.agg #[.string p]) "lagoon/watch.isMetBy").run Tryz.prog W = .ok (141, .agg #[.string p]) W := fun n W => by kernel_rfl
        have ht3 : ∀ W, (Instr.typeAssert (.iface 190 (.agg #[.string p])) 108 192 true).run Tryz.prog W = .ok (.tuple #[.agg #[.string ⟨#[]⟩], .bool false]) W := fun W => by kernel_rfl
        have ht4 : ∀ W, (Instr.typeAssert (.iface 190 (.agg #[.string p])) 108 193 true).run Tryz.prog W = .ok (.tuple #[.agg #[.string ⟨#[]⟩], .bool false]) W := fun W => by kernel_rfl
        have hwv : wishV (cl, 1, p) = .iface 190 (.agg #[.string p]) := by simp [wishV, wishT]
        rw [hwv] at hlk
        clear hwv
        go_upto_region 5 with fail
        generalize wr.alloc (.cells (waCs (cl, 1, p)) 57) = V at *
        go_quiet (fail)
        obtain ⟨bb, hbb⟩ : ∃ bb, bb = metB c (cl, 1, p) := ⟨_, rfl⟩
        have HF : Hid (Calls Tryz.prog 141 #[.agg #[.string p], .agg (chCs c)] (V.drewN nq) fun e w' => e = .returned (.bool bb) ∧ Hid (Below V.heap.size V w')) := by
          rw [hbb, metKind.1]
          exact (metData c p _).mono (fun e w' hh => ⟨hh.1, (below_drewN (Below.refl _ V) nq).trans hh.2⟩)
        have HM : Hid (metB c (cl, 1, p) = bb) := hbb.symm
        clear hbb
        go_wp2_with fail
        go_at_call 141
        refine (HF.out).mono ?_
        rintro e w2 ⟨rfl, HB2⟩
        have h2 := HV.out.1.below HB2.out
        have bx2 := box_later HV.out.2.2.1 HB2.out
        clear HF d0 d1 d2 qc1 qc2 z1 z2 z3 c1 hlk hme k0 k1 k2
        cases bb
        · have HN : Hid (MeetI w w2 b m (.slice (some ⟨b0, off, none⟩) l.length vc) l c u5 (i + 1)) := h2.pass HV.out.2.1 HM.out
          clear h2 bx2 HV HB2 HM
          go_wp2
          go_roundw
          case rel => exact ⟨i + 1, by omega, by simp, HN⟩
          case measure => simp [intOf]; omega
        · have qc1 := cell_of_row _ w.heap.size 0 _ _ _ h2.box
          have qc2 := cell_of_row _ w.heap.size 1 _ _ _ h2.box
          have d0 := cell_of_row _ wr.heap.size 0 _ _ _ bx2
          have d1 := cell_of_row _ wr.heap.size 1 _ _ _ bx2
          have d2 := cell_of_row _ wr.heap.size 2 _ _ _ bx2
          have z2 := lt_of_block bx2
          have z3 := lt_of_block h2.box
          obtain ⟨vo', ln, vc', w3, hr, hb3, ho3, hk3, hx3, hst3⟩ := MeetI.app HH.out.1 h2 HV.out.2.1 HM.out hl
          have bx3 := hst3 _ _ bx2 HV.out.2.2.2.2
          obtain ⟨w4, hst, hm4, hk4'⟩ := strike_some (w := w3.drew) 0 (by have := hb3.hm; rw [left_is HV.out.2.1] at this; exact this) (fun hm => nodup_mid HH.out.2.1 HV.out.2.1 (List.mem_filter.1 hm).1)
          have hk4 : Kept w3 w4 (fun k => k = m) := ⟨hk4'.os, hk4'.tape, hk4'.output, hk4'.size, hk4'.block⟩
          have hne := hb3.ne
          have hmw := HH.out.1.hm.lt
          have hw4 := HV.out.2.2.2.1
          have nxm : wr.heap.size ≠ m := by omega
          have g0 : w3.drew.cell? ⟨b, 1, none⟩ = some (.map (some m)) ∧ w3.drew.cell? ⟨wr.heap.size, 0, none⟩ = some (.int .i64 cl) ∧ w3.drew.cell? ⟨wr.heap.size, 1, none⟩ = some (.int .i8 1) ∧ w3.drew.cell? ⟨wr.heap.size, 2, none⟩ = some (.string p) := ⟨hb3.c1, cell_of_row w3 wr.heap.size 0 _ _ _ bx3, cell_of_row w3 wr.heap.size 1 _ _ _ bx3, cell_of_row w3 wr.heap.size 2 _ _ _ bx3⟩
          have g1 : w4.cell? ⟨b, 1, none⟩ = some (.map (some m)) ∧ w4.cell? ⟨wr.heap.size, 0, none⟩ = some (.int .i64 cl) ∧ w4.cell? ⟨wr.heap.size, 1, none⟩ = some (.int .i8 1) ∧ w4.cell? ⟨wr.heap.size, 2, none⟩ = some (.string p) := ⟨hk4'.cell g0.1 hne.1, hk4'.cell g0.2.1 nxm, hk4'.cell g0.2.2.1 nxm, hk4'.cell g0.2.2.2 nxm⟩
          have HN : Hid (MeetI w w4 b m (.slice (some ⟨b0, off, none⟩) l.length vc) l c (.slice vo' ln vc') (i + 1)) := by
            refine ⟨⟨hk4.heap hb3.hb hne.1, ?_, rowK hb3.ho hk4 (fun g hg e => hne.2.2 (by rw [hg, e]))⟩, rowK ho3 hk4 (fun g hg e => by have := (ho3.lt g hg).1; omega), hk3.trans hk4 (fun _ _ h => h), hk4.heap hx3 (by omega)⟩
            rw [left_no HV.out.2.1 (by unfold stayB; rw [HM.out]; rfl)]; exact hm4
          clear h2 bx2 HV HB2 HM hb3 ho3 hk3 hx3 hst3 bx3 hm4 hk4 hk4' hne hmw hw4 nxm
          go_upto_region 10 with (at_builtin; refine Lib.wpList_append_run_sl _ rfl _ _ 63 rfl _ _ rfl rfl (hr _) ?_)
          clear hr qc1 qc2 d0 d1 d2 z2 z3
          obtain ⟨bx, hbx⟩ : ∃ bx, bx = wr.heap.size := ⟨_, rfl⟩
          rw [← hbx] at g0 g1 ⊢
          clear hbx
          refine wp_region_held_drew (S := (fun W => W.cell? ⟨b, 1, none⟩ = some (.map (some m)) ∧ W.cell? ⟨bx, 0, none⟩ = some (.int .i64 cl) ∧ W.cell? ⟨bx, 1, none⟩ = some (.int .i8 1) ∧ W.cell? ⟨bx, 2, none⟩ = some (.string p))) (by kernel_rfl) ?_ (fun hHeld => ?_)
          · exact g0
          refine wpAnyH_take (i := 0) (oi := { dst := some 42, op := Op.move (Operand.tmp 0), type := 25, pos := "watch.go:101", after := #[], guard := none }) (v := ?_) rfl (by kernel_rfl) (by kernel_rfl) (by kernel_rfl) (fun _ _ _ h => h) (Or.inl ⟨by rfl, ?_⟩) (by assumption) ?_
          rotate_left
          · (intro w hSw; (try dsimp only at hSw); go_simp) <;> with_reducible rfl
          try simp only [Act.put, List.setIfInBounds_toArray, List.set_cons_zero, List.set_cons_succ]
          refine wpAnyH_take (i := 1) (oi := { dst := some 43, op := Op.nilCheck (Operand.tmp 42), type := 0, pos := "watch.go:101", after := #[{ on := 0, ground := Ground.data }], guard := none }) (v := ?_) rfl (by kernel_rfl) (by kernel_rfl) (by kernel_rfl) (fun _ _ _ h => h) (Or.inl ⟨by rfl, ?_⟩) (by assumption) ?_
          rotate_left
          · (intro w hSw; (try dsimp only at hSw); go_simp) <;> with_reducible rfl
          try simp only [Act.put, List.setIfInBounds_toArray, List.set_cons_zero, List.set_cons_succ]
          refine wpAnyH_take (i := 2) (oi := { dst := some 44, op := Op.fieldAddr 80 (Operand.tmp 43) 1, type := 0, pos := "watch.go:101", after := #[{ on := 1, ground := Ground.data }], guard := none }) (v := ?_) rfl (by kernel_rfl) (by kernel_rfl) (by kernel_rfl) (fun _ _ _ h => h) (Or.inl ⟨by rfl, ?_⟩) (by assumption) ?_
          rotate_left
          · (intro w hSw; (try dsimp only at hSw); go_simp) <;> with_reducible rfl
          try simp only [Act.put, List.setIfInBounds_toArray, List.set_cons_zero, List.set_cons_succ]
          refine wpAnyH_take (i := 3) (oi := { dst := some 45, op := Op.load 78 (Operand.tmp 44), type := 78, pos := "watch.go:101", after := #[{ on := 2, ground := Ground.data }], guard := none }) (v := ?_) rfl (by kernel_rfl) (by kernel_rfl) (by kernel_rfl) (fun _ _ _ h => h) (Or.inl ⟨by rfl, ?_⟩) (by assumption) ?_
          rotate_left
          · (intro w hSw; (try dsimp only at hSw); go_simp) <;> with_reducible rfl
          try simp only [Act.put, List.setIfInBounds_toArray, List.set_cons_zero, List.set_cons_succ]
          refine wpAnyH_take (i := 4) (oi := { dst := some 46, op := Op.load 57 (Operand.tmp 7), type := 57, pos := "watch.go:101", after := #[], guard := none }) (v := ?_) rfl (by kernel_rfl) (by kernel_rfl) (by kernel_rfl) (fun _ _ _ h => h) (Or.inl ⟨by rfl, ?_⟩) (by assumption) ?_
          rotate_left
          · (intro w hSw; (try dsimp only at hSw); go_simp) <;> with_reducible rfl
          try simp only [Act.put, List.setIfInBounds_toArray, List.set_cons_zero, List.set_cons_succ]
          refine wpAnyH_ready (rs := [5]) (by kernel_rfl) (by simp) ?_
          refine AllReadyH.cons (o := { dst := none, op := Op.call { callee := Callee.builtin Builtin.delete, args := #[Operand.tmp 45, Operand.tmp 46], argTypes := #[78, 57] }, type := 0, pos := "watch.go:101", after := #[{ on := 3, ground := Ground.data }, { on := 4, ground := Ground.data }], guard := none }) rfl (fun K hK => ?_) AllReadyH.nil
          go_simp
          refine hK.out _ _ g1 (fun hHeld => ?_)
          clear hK K
          refine wpAnyH_done (by kernel_rfl) ?_ _
          clear hHeld g0 g1 hst
          go_wp2
          go_roundw
          case rel => exact ⟨i + 1, by omega, by simp, HN⟩
          case measure => simp [intOf]; omega
      · replace hkd : kd = 2 := hkd
        subst hkd
        have hme : ∀ (n : Nat) (W : World), (method (n + 1) 191 (.agg #[.string p]) "lagoon/watch.isMetBy").run Tryz.prog W = .ok (143, .agg #[.string p]) W := fun n W => by kernel_rfl
        have ht3 : ∀ W, (Instr.typeAssert (.iface 191 (.agg #[.string p])) 108 192 true).run Tryz.prog W = .ok (.tuple #[.agg #[.string ⟨#[]⟩], .bool false]) W := fun W => by kernel_rfl
        have ht4 : ∀ W, (Instr.typeAssert (.iface 191 (.agg #[.string p])) 108 193 true).run Tryz.prog W = .ok (.tuple #[.agg #[.string ⟨#[]⟩], .bool false]) W := fun W => by kernel_rfl
        have hwv : wishV (cl, 2, p) = .iface 191 (.agg #[.string p]) := by simp [wishV, wishT]
        rw [hwv] at hlk
        clear hwv
        go_upto_region 5 with fail
        generalize wr.alloc (.cells (waCs (cl, 2, p)) 57) = V at *
        go_quiet (fail)
        obtain ⟨bb, hbb⟩ : ∃ bb, bb = metB c (cl, 2, p) := ⟨_, rfl⟩
        have HF : Hid (Calls Tryz.prog 143 #[.agg #[.string p], .agg (chCs c)] (V.drewN nq) fun e w' => e = .returned (.bool bb) ∧ Hid (Below V.heap.size V w')) := by
          rw [hbb, metKind.2.1]
          exact (metChild c p _).mono (fun e w' hh => ⟨hh.1, (below_drewN (Below.refl _ V) nq).trans hh.2⟩)
        have HM : Hid (metB c (cl, 2, p) = bb) := hbb.symm
        clear hbb
        go_wp2_with fail
        go_at_call 143
        refine (HF.out).mono ?_
        rintro e w2 ⟨rfl, HB2⟩
        have h2 := HV.out.1.below HB2.out
        have bx2 := box_later HV.out.2.2.1 HB2.out
        clear HF d0 d1 d2 qc1 qc2 z1 z2 z3 c1 hlk hme k0 k1 k2
        cases bb
        · have HN : Hid (MeetI w w2 b m (.slice (some ⟨b0, off, none⟩) l.length vc) l c u5 (i + 1)) := h2.pass HV.out.2.1 HM.out
          clear h2 bx2 HV HB2 HM
          go_wp2
          go_roundw
          case rel => exact ⟨i + 1, by omega, by simp, HN⟩
          case measure => simp [intOf]; omega
        · have qc1 := cell_of_row _ w.heap.size 0 _ _ _ h2.box
          have qc2 := cell_of_row _ w.heap.size 1 _ _ _ h2.box
          have d0 := cell_of_row _ wr.heap.size 0 _ _ _ bx2
          have d1 := cell_of_row _ wr.heap.size 1 _ _ _ bx2
          have d2 := cell_of_row _ wr.heap.size 2 _ _ _ bx2
          have z2 := lt_of_block bx2
          have z3 := lt_of_block h2.box
          obtain ⟨vo', ln, vc', w3, hr, hb3, ho3, hk3, hx3, hst3⟩ := MeetI.app HH.out.1 h2 HV.out.2.1 HM.out hl
          have bx3 := hst3 _ _ bx2 HV.out.2.2.2.2
          obtain ⟨w4, hst, hm4, hk4'⟩ := strike_some (w := w3.drew) 0 (by have := hb3.hm; rw [left_is HV.out.2.1] at this; exact this) (fun hm => nodup_mid HH.out.2.1 HV.out.2.1 (List.mem_filter.1 hm).1)
          have hk4 : Kept w3 w4 (fun k => k = m) := ⟨hk4'.os, hk4'.tape, hk4'.output, hk4'.size, hk4'.block⟩
          have hne := hb3.ne
          have hmw := HH.out.1.hm.lt
          have hw4 := HV.out.2.2.2.1
          have nxm : wr.heap.size ≠ m := by omega
          have g0 : w3.drew.cell? ⟨b, 1, none⟩ = some (.map (some m)) ∧ w3.drew.cell? ⟨wr.heap.size, 0, none⟩ = some (.int .i64 cl) ∧ w3.drew.cell? ⟨wr.heap.size, 1, none⟩ = some (.int .i8 2) ∧ w3.drew.cell? ⟨wr.heap.size, 2, none⟩ = some (.string p) := ⟨hb3.c1, cell_of_row w3 wr.heap.size 0 _ _ _ bx3, cell_of_row w3 wr.heap.size 1 _ _ _ bx3, cell_of_row w3 wr.heap.size 2 _ _ _ bx3⟩
          have g1 : w4.cell? ⟨b, 1, none⟩ = some (.map (some m)) ∧ w4.cell? ⟨wr.heap.size, 0, none⟩ = some (.int .i64 cl) ∧ w4.cell? ⟨wr.heap.size, 1, none⟩ = some (.int .i8 2) ∧ w4.cell? ⟨wr.heap.size, 2, none⟩ = some (.string p) := ⟨hk4'.cell g0.1 hne.1, hk4'.cell g0.2.1 nxm, hk4'.cell g0.2.2.1 nxm, hk4'.cell g0.2.2.2 nxm⟩
          have HN : Hid (MeetI w w4 b m (.slice (some ⟨b0, off, none⟩) l.length vc) l c (.slice vo' ln vc') (i + 1)) := by
            refine ⟨⟨hk4.heap hb3.hb hne.1, ?_, rowK hb3.ho hk4 (fun g hg e => hne.2.2 (by rw [hg, e]))⟩, rowK ho3 hk4 (fun g hg e => by have := (ho3.lt g hg).1; omega), hk3.trans hk4 (fun _ _ h => h), hk4.heap hx3 (by omega)⟩
            rw [left_no HV.out.2.1 (by unfold stayB; rw [HM.out]; rfl)]; exact hm4
          clear h2 bx2 HV HB2 HM hb3 ho3 hk3 hx3 hst3 bx3 hm4 hk4 hk4' hne hmw hw4 nxm
          go_upto_region 10 with (at_builtin; refine Lib.wpList_append_run_sl _ rfl _ _ 63 rfl _ _ rfl rfl (hr _) ?_)
          clear hr qc1 qc2 d0 d1 d2 z2 z3
          obtain ⟨bx, hbx⟩ : ∃ bx, bx = wr.heap.size := ⟨_, rfl⟩
          rw [← hbx] at g0 g1 ⊢
          clear hbx
          refine wp_region_held_drew (S := (fun W => W.cell? ⟨b, 1, none⟩ = some (.map (some m)) ∧ W.cell? ⟨bx, 0, none⟩ = some (.int .i64 cl) ∧ W.cell? ⟨bx, 1, none⟩ = some (.int .i8 2) ∧ W.cell? ⟨bx, 2, none⟩ = some (.string p))) (by kernel_rfl) ?_ (fun hHeld => ?_)
          · exact g0
          refine wpAnyH_take (i := 0) (oi := { dst := some 42, op := Op.move (Operand.tmp 0), type := 25, pos := "watch.go:101", after := #[], guard := none }) (v := ?_) rfl (by kernel_rfl) (by kernel_rfl) (by kernel_rfl) (fun _ _ _ h => h) (Or.inl ⟨by rfl, ?_⟩) (by assumption) ?_
          rotate_left
          · (intro w hSw; (try dsimp only at hSw); go_simp) <;> with_reducible rfl
          try simp only [Act.put, List.setIfInBounds_toArray, List.set_cons_zero, List.set_cons_succ]
          refine wpAnyH_take (i := 1) (oi := { dst := some 43, op := Op.nilCheck (Operand.tmp 42), type := 0, pos := "watch.go:101", after := #[{ on := 0, ground := Ground.data }], guard := none }) (v := ?_) rfl (by kernel_rfl) (by kernel_rfl) (by kernel_rfl) (fun _ _ _ h => h) (Or.inl ⟨by rfl, ?_⟩) (by assumption) ?_
          rotate_left
          · (intro w hSw; (try dsimp only at hSw); go_simp) <;> with_reducible rfl
          try simp only [Act.put, List.setIfInBounds_toArray, List.set_cons_zero, List.set_cons_succ]
          refine wpAnyH_take (i := 2) (oi := { dst := some 44, op := Op.fieldAddr 80 (Operand.tmp 43) 1, type := 0, pos := "watch.go:101", after := #[{ on := 1, ground := Ground.data }], guard := none }) (v := ?_) rfl (by kernel_rfl) (by kernel_rfl) (by kernel_rfl) (fun _ _ _ h => h) (Or.inl ⟨by rfl, ?_⟩) (by assumption) ?_
          rotate_left
          · (intro w hSw; (try dsimp only at hSw); go_simp) <;> with_reducible rfl
          try simp only [Act.put, List.setIfInBounds_toArray, List.set_cons_zero, List.set_cons_succ]
          refine wpAnyH_take (i := 3) (oi := { dst := some 45, op := Op.load 78 (Operand.tmp 44), type := 78, pos := "watch.go:101", after := #[{ on := 2, ground := Ground.data }], guard := none }) (v := ?_) rfl (by kernel_rfl) (by kernel_rfl) (by kernel_rfl) (fun _ _ _ h => h) (Or.inl ⟨by rfl, ?_⟩) (by assumption) ?_
          rotate_left
          · (intro w hSw; (try dsimp only at hSw); go_simp) <;> with_reducible rfl
          try simp only [Act.put, List.setIfInBounds_toArray, List.set_cons_zero, List.set_cons_succ]
          refine wpAnyH_take (i := 4) (oi := { dst := some 46, op := Op.load 57 (Operand.tmp 7), type := 57, pos := "watch.go:101", after := #[], guard := none }) (v := ?_) rfl (by kernel_rfl) (by kernel_rfl) (by kernel_rfl) (fun _ _ _ h => h) (Or.inl ⟨by rfl, ?_⟩) (by assumption) ?_
          rotate_left
          · (intro w hSw; (try dsimp only at hSw); go_simp) <;> with_reducible rfl
          try simp only [Act.put, List.setIfInBounds_toArray, List.set_cons_zero, List.set_cons_succ]
          refine wpAnyH_ready (rs := [5]) (by kernel_rfl) (by simp) ?_
          refine AllReadyH.cons (o := { dst := none, op := Op.call { callee := Callee.builtin Builtin.delete, args := #[Operand.tmp 45, Operand.tmp 46], argTypes := #[78, 57] }, type := 0, pos := "watch.go:101", after := #[{ on := 3, ground := Ground.data }, { on := 4, ground := Ground.data }], guard := none }) rfl (fun K hK => ?_) AllReadyH.nil
          go_simp
          refine hK.out _ _ g1 (fun hHeld => ?_)
          clear hK K
          refine wpAnyH_done (by kernel_rfl) ?_ _
          clear hHeld g0 g1 hst
          go_wp2
          go_roundw
          case rel => exact ⟨i + 1, by omega, by simp, HN⟩
          case measure => simp [intOf]; omega
      · replace hkd : kd = 3 := hkd
        subst hkd
        have hme : ∀ (n : Nat) (W : World), (method (n + 1) 192 (.agg #[.string p]) "lagoon/watch.isMetBy").run Tryz.prog W = .ok (144, .agg #[.string p]) W := fun n W => by kernel_rfl
        have ht3 : ∀ W, (Instr.typeAssert (.iface 192 (.agg #[.string p])) 108 192 true).run Tryz.prog W = .ok (.tuple #[.agg #[.string p], .bool true]) W := fun W => by kernel_rfl
        have ht4 : ∀ W, (Instr.typeAssert (.iface 192 (.agg #[.string p])) 108 193 true).run Tryz.prog W = .ok (.tuple #[.agg #[.string ⟨#[]⟩], .bool false]) W := fun W => by kernel_rfl
        have hwv : wishV (cl, 3, p) = .iface 192 (.agg #[.string p]) := by simp [wishV, wishT]
        rw [hwv] at hlk
        clear hwv
        go_upto_region 5 with fail
        generalize wr.alloc (.cells (waCs (cl, 3, p)) 57) = V at *
        go_quiet (fail)
        obtain ⟨bb, hbb⟩ : ∃ bb, bb = metB c (cl, 3, p) := ⟨_, rfl⟩
        have HF : Hid (Calls Tryz.prog 144 #[.agg #[.string p], .agg (chCs c)] (V.drewN nq) fun e w' => e = .returned (.bool bb) ∧ Hid (Below V.heap.size V w')) := by
          rw [hbb, metKind.2.2.1]
          exact (metStay c p _).mono (fun e w' hh => ⟨hh.1, (below_drewN (Below.refl _ V) nq).trans hh.2⟩)
        have HM : Hid (metB c (cl, 3, p) = bb) := hbb.symm
        clear hbb
        go_wp2_with fail
        go_at_call 144
        refine (HF.out).mono ?_
        rintro e w2 ⟨rfl, HB2⟩
        have h2 := HV.out.1.below HB2.out
        have bx2 := box_later HV.out.2.2.1 HB2.out
        clear HF d0 d1 d2 qc1 qc2 z1 z2 z3 c1 hlk hme k0 k1 k2
        cases bb
        · have HN : Hid (MeetI w w2 b m (.slice (some ⟨b0, off, none⟩) l.length vc) l c u5 (i + 1)) := h2.pass HV.out.2.1 HM.out
          clear h2 bx2 HV HB2 HM
          go_wp2
          go_roundw
          case rel => exact ⟨i + 1, by omega, by simp, HN⟩
          case measure => simp [intOf]; omega
        · have qc1 := cell_of_row _ w.heap.size 0 _ _ _ h2.box
          have qc2 := cell_of_row _ w.heap.size 1 _ _ _ h2.box
          have d0 := cell_of_row _ wr.heap.size 0 _ _ _ bx2
          have d1 := cell_of_row _ wr.heap.size 1 _ _ _ bx2
          have d2 := cell_of_row _ wr.heap.size 2 _ _ _ bx2
          have z2 := lt_of_block bx2
          have z3 := lt_of_block h2.box
          obtain ⟨vo', ln, vc', w3, hr, hb3, ho3, hk3, hx3, hst3⟩ := MeetI.app HH.out.1 h2 HV.out.2.1 HM.out hl
          have bx3 := hst3 _ _ bx2 HV.out.2.2.2.2
          have HN : Hid (MeetI w w3 b m (.slice (some ⟨b0, off, none⟩) l.length vc) l c (.slice vo' ln vc') (i + 1)) := ⟨by rw [left_yes HV.out.2.1 (by unfold stayB; rw [HM.out]; rfl)]; exact hb3, ho3, hk3, hx3⟩
          clear h2 bx2 HV HB2 HM hb3 ho3 hk3 hx3 hst3 bx3
          go_wp2_with (at_builtin; refine Lib.wpList_append_run_sl _ rfl _ _ 63 rfl _ _ rfl rfl (hr _) ?_)
          go_roundw
          case rel => exact ⟨i + 1, by omega, by simp, HN⟩
          case measure => simp [intOf]; omega
      · replace hkd : kd = 4 := hkd
        subst hkd
        have hme : ∀ (n : Nat) (W : World), (method (n + 1) 193 (.agg #[.string p]) "lagoon/watch.isMetBy").run Tryz.prog W = .ok (145, .agg #[.string p]) W := fun n W => by kernel_rfl
        have ht3 : ∀ W, (Instr.typeAssert (.iface 193 (.agg #[.string p])) 108 192 true).run Tryz.prog W = .ok (.tuple #[.agg #[.string ⟨#[]⟩], .bool false]) W := fun W => by kernel_rfl
        have ht4 : ∀ W, (Instr.typeAssert (.iface 193 (.agg #[.string p])) 108 193 true).run Tryz.prog W = .ok (.tuple #[.agg #[.string p], .bool true]) W := fun W => by kernel_rfl
        have hwv : wishV (cl, 4, p) = .iface 193 (.agg #[.string p]) := by simp [wishV, wishT]
        rw [hwv] at hlk
        clear hwv
        go_upto_region 5 with fail
        generalize wr.alloc (.cells (waCs (cl, 4, p)) 57) = V at *
        go_quiet (fail)
        obtain ⟨bb, hbb⟩ : ∃ bb, bb = metB c (cl, 4, p) := ⟨_, rfl⟩
        have HF : Hid (Calls Tryz.prog 145 #[.agg #[.string p], .agg (chCs c)] (V.drewN nq) fun e w' => e = .returned (.bool bb) ∧ Hid (Below V.heap.size V w')) := by
          rw [hbb, metKind.2.2.2]
          exact (metBelow c p _ hcl).mono (fun e w' hh => ⟨hh.1, (below_drewN (Below.refl _ V) nq).trans hh.2⟩)
        have HM : Hid (metB c (cl, 4, p) = bb) := hbb.symm
        clear hbb
        go_wp2_with fail
        go_at_call 145
        refine (HF.out).mono ?_
        rintro e w2 ⟨rfl, HB2⟩
        have h2 := HV.out.1.below HB2.out
        have bx2 := box_later HV.out.2.2.1 HB2.out
        clear HF d0 d1 d2 qc1 qc2 z1 z2 z3 c1 hlk hme k0 k1 k2
        cases bb
        · have HN : Hid (MeetI w w2 b m (.slice (some ⟨b0, off, none⟩) l.length vc) l c u5 (i + 1)) := h2.pass HV.out.2.1 HM.out
          clear h2 bx2 HV HB2 HM
          go_wp2
          go_roundw
          case rel => exact ⟨i + 1, by omega, by simp, HN⟩
          case measure => simp [intOf]; omega
        · have qc1 := cell_of_row _ w.heap.size 0 _ _ _ h2.box
          have qc2 := cell_of_row _ w.heap.size 1 _ _ _ h2.box
          have d0 := cell_of_row _ wr.heap.size 0 _ _ _ bx2
          have d1 := cell_of_row _ wr.heap.size 1 _ _ _ bx2
          have d2 := cell_of_row _ wr.heap.size 2 _ _ _ bx2
          have z2 := lt_of_block bx2
          have z3 := lt_of_block h2.box
          obtain ⟨vo', ln, vc', w3, hr, hb3, ho3, hk3, hx3, hst3⟩ := MeetI.app HH.out.1 h2 HV.out.2.1 HM.out hl
          have bx3 := hst3 _ _ bx2 HV.out.2.2.2.2
          have HN : Hid (MeetI w w3 b m (.slice (some ⟨b0, off, none⟩) l.length vc) l c (.slice vo' ln vc') (i + 1)) := ⟨by rw [left_yes HV.out.2.1 (by unfold stayB; rw [HM.out]; rfl)]; exact hb3, ho3, hk3, hx3⟩
          clear h2 bx2 HV HB2 HM hb3 ho3 hk3 hx3 hst3 bx3
          go_wp2_with (at_builtin; refine Lib.wpList_append_run_sl _ rfl _ _ 63 rfl _ _ rfl rfl (hr _) ?_)
          go_roundw
          case rel => exact ⟨i + 1, by omega, by simp, HN⟩
          case measure => simp [intOf]; omega
    · have hd : decide ((i : Int) < (l.length : Int)) = false := by simp; omega
      have HE : Hid (wr.ownsRow w.heap.size 77 5 u5 (l.filter (metB c)).length (fiFlat c (l.filter (metB c))) ∧ Bo wr b m (.slice vo l.length vc) l (l.filter (stayB c)) ∧ Kept w wr (fun k => k = m)) := by
        have h1 := HD.out.told
        have h2 := HD.out.bo
        rw [List.take_of_length_le (by omega)] at h1
        rw [left_end (by omega)] at h2
        exact ⟨row_lower h1 (by omega), h2, HD.out.kept⟩
      obtain ⟨uo, ln, uc, huu⟩ : ∃ a n c, u5 = .slice a n c := by
        obtain ⟨a, c, e⟩ := rowS HE.out.1
        exact ⟨a, _, c, e⟩
      subst huu
      clear HD HH
      go_wp2
      all_goals (rw [Exit.noGoto_ret]; go_ret; exact ⟨_, rfl, HE.out⟩)

end Go.Proofs.YtkcapiblicfboaaGreatDoor
