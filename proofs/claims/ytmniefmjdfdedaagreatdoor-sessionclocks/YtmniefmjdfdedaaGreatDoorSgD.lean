/- The document's clock: Tick. -/
import Derived.Test.YtmniefmjdfdedaaGreatDoorSgC
import Derived.Test.YtmniefmjdfdedaaGreatDoorSeG
namespace Go.Proofs.YtmniefmjdfdedaaGreatDoor
open Go.RowKit Go.Shelf
set_option maxRecDepth 8000
set_option linter.unusedSimpArgs false

theorem Dc.tick {w : World} {d : Nat} {sv bv : Value} {now span : Int} {dl : List DcT} (h : Dc w d sv bv now span dl) (t' : Int) : Dc (w.setCell ⟨d, 0, none⟩ (.int .i64 t')) d sv bv t' span dl ∧ Kept w (w.setCell ⟨d, 0, none⟩ (.int .i64 t')) (fun k => k = d) := by
  have hk : Kept w (w.setCell ⟨d, 0, none⟩ (.int .i64 t')) (fun k => k = d) := (Kept.refl w _).setCell _ _ (fun _ => rfl)
  refine ⟨⟨?_, rowK h.so hk (fun g e q => ?_), rowK h.bo hk (fun g e q => ?_)⟩, hk⟩
  · rw [setCell_eq_setRow w d 0 _ _ _ _ h.row, setRow_heap w d _ _ _ _ h.row]; rfl
  · have q2 : g = d := q
    obtain ⟨cs, e2⟩ := rowT h.so e
    rw [q2, h.row] at e2; simp at e2
  · have q2 : g = d := q
    obtain ⟨cs, e2⟩ := rowT h.bo e
    rw [q2, h.row] at e2; simp at e2

set_option maxHeartbeats 4000000 in
theorem refTick {w : World} {d : Nat} {sv bv : Value} {now span : Int} {dl : List DcT} (h : Dc w d sv bv now span dl) (hup : dl.Pairwise (fun a b => a.1 < b.1)) (hl : dl.length ≤ 900) (hok : ∀ y ∈ dl, OkD now y) (h1 : 1 ≤ span) (h2 : span ≤ 1000) (h3 : 0 ≤ now) (h4 : now ≤ 3000000000000000000) :
    Calls Tryz.prog 19 #[.pointer (some ⟨d, 0, none⟩)] w fun e w' => ∃ u, e = .returned u ∧ OI w' w.heap.size u (tolD span dl (now + 1)) ∧ DcTo w w' d sv bv (now + 1) span (goD span dl (now + 1)) := by
  have c0 := h.c0
  have hz := lt_of_block h.row
  have f0 : w.frozen? ⟨d, 0, none⟩ = false := by simp [World.frozen?, h.row]
  obtain ⟨W1, hW1⟩ : ∃ W1, W1 = w.setCell ⟨d, 0, none⟩ (.int .i64 (now + 1)) := ⟨_, rfl⟩
  have ht := h.tick (now + 1)
  rw [← hW1] at ht
  have HD1 : Hid (Dc W1 d sv bv (now + 1) span dl ∧ Kept w W1 (fun k => k = d)) := ht
  have HW1 : Hid (w.setCell ⟨d, 0, none⟩ (.int .i64 (now + 1)) = W1) := hW1.symm
  have HUp : Hid (dl.Pairwise (fun a b => a.1 < b.1)) := hup
  have HOk : Hid (∀ y ∈ dl, OkD now y) := hok
  have C2 : Hid (∀ wr, Kept W1 wr (fun _ => False) → Dc wr d sv bv (now + 1) span dl) := fun wr hk => HD1.out.1.kept hk (fun _ _ e => e)
  obtain ⟨sa, sc, hsv⟩ := h.sv
  have HSv : Hid (sv = .slice sa dl.length sc) := hsv
  have HZ1 : Hid (W1.heap.size = w.heap.size) := by show _ = _; rw [hW1]; simp
  clear h ht hW1 hup hok hsv
  obtain ⟨T, hT⟩ : ∃ T, T = now + 1 := ⟨_, rfl⟩
  have HT : Hid (T = now + 1) := hT
  rw [← hT] at C2 HD1 ⊢
  go_enter Tryz.func19, Tryz.ntmps19
  go_upto_region 2 with fail
  rw [HW1.out]
  clear HW1 c0 f0
  clear hT
  have hzd : d < W1.heap.size := by rw [HZ1.out]; exact hz
  clear hz
  go_wp2
  go_loopw [3, 4] (fun vo vi wr => ∃ i : Nat, i ≤ dl.length ∧ vi = .int .i64 (i : Int) ∧ Hid (OI wr w.heap.size vo (tolD span (dl.take i) T)) ∧ Hid (Kept W1 wr (fun _ => False))) (fun _ vi _ => 1000 - (intOf vi).toNat)
  case atStart => exact ⟨0, by omega, rfl, by rw [show tolD span (dl.take 0) T = [] by simp [tolD, idD]]; exact World.ownsRow_nil _ _ _ _, Kept.refl _ _⟩
  case round =>
    obtain ⟨i, hi, rfl, HO, HK⟩ := hrel
    have HC : Hid _ := C2.out wr HK.out
    have c2 := HC.out.c2
    have hz : d < wr.heap.size := lt_of_block HC.out.row
    rw [HSv.out] at c2
    obtain ⟨oa, oc, ho⟩ := rowS HO.out
    subst ho
    obtain ⟨on, hon⟩ : ∃ n, n = (tolD span (dl.take i) T).length := ⟨_, rfl⟩
    have HOn : Hid (on = (tolD span (dl.take i) T).length) := hon
    rw [← hon] at HO ⊢
    clear hon
    by_cases hlt : i < dl.length
    · have hd : decide ((i : Int) < (dl.length : Int)) = true := by simp; omega
      obtain ⟨x, hx⟩ : ∃ x, dl[i]? = some x := ⟨_, List.getElem?_eq_getElem hlt⟩
      have hox := HOk.out x (List.mem_of_getElem? hx)
      have HU : Hid (Calls Tryz.prog 32 #[.pointer (some ⟨d, 0, none⟩), .int .i64 (i : Int)] wr.drew fun e w' => e = .returned (.int .i64 (upT (x.2.2 + x.2.1) span)) ∧ Hid (Kept wr.drew w' (fun _ => False))) := by
        have hb1 := hox.b1
        exact refDue (Dc.drewN HC.out 1) hx h1 h2 hox.b0 (by omega) hox.t1 hox.t2
      have g0 : wr.cell? ⟨d, 0, none⟩ = some (.int .i64 T) := HC.out.c0
      have hsn := tolD_snoc (span := span) (T := T) hx
      have ige : (0 : Int) ≤ (i : Int) := by omega
      have ilt : (i : Int) < (dl.length : Int) := by omega
      have htl : (tolD span (dl.take i) T).length ≤ 900 := by have := tolD_len span (dl.take i) T; simp at this; omega
      obtain ⟨U, hU⟩ : ∃ U, U = upT (x.2.2 + x.2.1) span := ⟨_, rfl⟩
      rw [← hU] at HU hsn
      clear hU hox
      by_cases hUT : U = T
      · rw [if_pos hUT] at hsn
        have HSn : Hid (tolD span (dl.take (i + 1)) T = tolD span (dl.take i) T ++ [x.1]) := hsn
        clear hsn HC
        have hbe : (U == T) = true := by simpa using hUT
        go_wp2_with fail
        refine wp_region_held_drew (S := (fun W => W.cell? ⟨d, 0, none⟩ = some (.int .i64 T))) (by kernel_rfl) ?_ (fun hHeld => ?_)
        · exact g0
        refine wpAnyH_take (i := 0) (oi := { dst := some 22, op := Op.move (Operand.tmp 0), type := 31, pos := "ref.go:124", after := #[], guard := none }) (v := ?_) rfl (by kernel_rfl) (by kernel_rfl) (by kernel_rfl) (fun _ _ _ h => h) (Or.inl ⟨by rfl, ?_⟩) (by assumption) ?_
        rotate_left
        · (intro w hSw; (try dsimp only at hSw); go_simp) <;> with_reducible rfl
        try simp only [Act.put, List.setIfInBounds_toArray, List.set_cons_zero, List.set_cons_succ]
        refine wpAnyH_take (i := 1) (oi := { dst := some 23, op := Op.move (Operand.tmp 4), type := 3, pos := "ref.go:124", after := #[], guard := none }) (v := ?_) rfl (by kernel_rfl) (by kernel_rfl) (by kernel_rfl) (fun _ _ _ h => h) (Or.inl ⟨by rfl, ?_⟩) (by assumption) ?_
        rotate_left
        · (intro w hSw; (try dsimp only at hSw); go_simp) <;> with_reducible rfl
        try simp only [Act.put, List.setIfInBounds_toArray, List.set_cons_zero, List.set_cons_succ]
        refine wpAnyH_take (i := 3) (oi := { dst := some 25, op := Op.move (Operand.tmp 0), type := 31, pos := "ref.go:124", after := #[], guard := none }) (v := ?_) rfl (by kernel_rfl) (by kernel_rfl) (by kernel_rfl) (fun _ _ _ h => h) (Or.inl ⟨by rfl, ?_⟩) (by assumption) ?_
        rotate_left
        · (intro w hSw; (try dsimp only at hSw); go_simp) <;> with_reducible rfl
        try simp only [Act.put, List.setIfInBounds_toArray, List.set_cons_zero, List.set_cons_succ]
        refine wpAnyH_take (i := 4) (oi := { dst := some 26, op := Op.nilCheck (Operand.tmp 25), type := 0, pos := "ref.go:124", after := #[{ on := 3, ground := Ground.data }], guard := none }) (v := ?_) rfl (by kernel_rfl) (by kernel_rfl) (by kernel_rfl) (fun _ _ _ h => h) (Or.inl ⟨by rfl, ?_⟩) (by assumption) ?_
        rotate_left
        · (intro w hSw; (try dsimp only at hSw); go_simp) <;> with_reducible rfl
        try simp only [Act.put, List.setIfInBounds_toArray, List.set_cons_zero, List.set_cons_succ]
        refine wpAnyH_take (i := 5) (oi := { dst := some 27, op := Op.fieldAddr 52 (Operand.tmp 26) 0, type := 0, pos := "ref.go:124", after := #[{ on := 4, ground := Ground.data }], guard := none }) (v := ?_) rfl (by kernel_rfl) (by kernel_rfl) (by kernel_rfl) (fun _ _ _ h => h) (Or.inl ⟨by rfl, ?_⟩) (by assumption) ?_
        rotate_left
        · (intro w hSw; (try dsimp only at hSw); go_simp) <;> with_reducible rfl
        try simp only [Act.put, List.setIfInBounds_toArray, List.set_cons_zero, List.set_cons_succ]
        refine wpAnyH_take (i := 6) (oi := { dst := some 28, op := Op.load 3 (Operand.tmp 27), type := 3, pos := "ref.go:124", after := #[{ on := 5, ground := Ground.data }], guard := none }) (v := ?_) rfl (by kernel_rfl) (by kernel_rfl) (by kernel_rfl) (fun _ _ _ h => h) (Or.inl ⟨by rfl, ?_⟩) (by assumption) ?_
        rotate_left
        · (intro w hSw; (try dsimp only at hSw); go_simp) <;> with_reducible rfl
        try simp only [Act.put, List.setIfInBounds_toArray, List.set_cons_zero, List.set_cons_succ]
        refine wpAnyH_ready (rs := [2]) (by kernel_rfl) (by simp) ?_
        refine AllReadyH.cons (o := { dst := some 24, op := Op.call { callee := Callee.value (Operand.func 32), args := #[Operand.tmp 22, Operand.tmp 23], argTypes := #[31, 3] }, type := 3, pos := "ref.go:124", after := #[{ on := 0, ground := Ground.data }, { on := 1, ground := Ground.data }], guard := none }) rfl (fun K hK => ?_) AllReadyH.nil
        go_simp
        refine Calls.mono HU.out ?_
        rintro r1 w1 ⟨rfl, hk1⟩
        have g1 : w1.cell? ⟨d, 0, none⟩ = some (.int .i64 T) := hk1.out.cell g0 (fun e => e)
        have HK1 : Hid (Kept W1 w1 (fun _ => False)) := (HK.out.drewN 1).trans hk1.out (fun _ _ e => e)
        have HO1 : Hid (OI w1 w.heap.size (.slice oa on oc) (tolD span (dl.take i) T)) := rowK (w := wr.drew) HO.out hk1.out (fun _ _ e => e)
        clear hk1 HU HO
        refine hK.out _ _ g1 (fun hHeld => ?_)
        clear hK K
        refine wpAnyH_take (i := 7) (oi := { dst := some 29, op := Op.binOp BinOp.eql 3 (Operand.tmp 24) (Operand.tmp 28) 3, type := 4, pos := "ref.go:124", after := #[{ on := 2, ground := Ground.data }, { on := 6, ground := Ground.data }], guard := none }) (v := ?_) rfl (by kernel_rfl) (by kernel_rfl) (by kernel_rfl) (fun _ _ _ h => h) (Or.inl ⟨by rfl, ?_⟩) (by assumption) ?_
        rotate_left
        · (intro w hSw; (try dsimp only at hSw); go_simp) <;> with_reducible rfl
        try simp only [Act.put, List.setIfInBounds_toArray, List.set_cons_zero, List.set_cons_succ]
        refine wpAnyH_done (by kernel_rfl) ?_ _
        clear hHeld g1 HK
        have HC1 : Hid _ := C2.out w1 HK1.out
        have c2b := HC1.out.c2
        have hzb : d < w1.heap.size := lt_of_block HC1.out.row
        obtain ⟨g, cap, e', hcap, k1, k2⟩ := HC1.out.at hx
        rw [HSv.out] at e' c2b
        simp only [Value.slice.injEq, true_and] at e'
        obtain ⟨rfl, rfl⟩ := e'
        have hg : g < w1.heap.size := World.block_lt_of_cell? w1 _ k1
        have B1 : Kept w1 (w1.alloc (.cells #[.int .i64 x.1] 2)) (fun _ => False) := (Kept.refl w1 _).alloc _
        have ho2 : OI (w1.alloc (.cells #[.int .i64 x.1] 2)) w.heap.size (.slice oa on oc) (tolD span (dl.take i) T) := rowK HO1.out B1 (fun _ _ e => e)
        have hsz := HK1.out.size
        obtain ⟨v', w3, hap, ho3, k3⟩ := app_i ho2 (heap_alloc_new _ _) (by omega) (by have := HZ1.out; simp; omega)
        obtain ⟨xa, xc, rfl⟩ := rowS ho3
        have HN : Hid (OI w3 w.heap.size (.slice xa ((tolD span (dl.take i) T).length + 1) xc) (tolD span (dl.take (i + 1)) T)) := by
          have e : (tolD span (dl.take i) T ++ [x.1]).length = (tolD span (dl.take i) T).length + 1 := by simp
          rw [e] at ho3
          rw [HSn.out]; exact ho3
        have HKN : Hid (Kept W1 w3 (fun _ => False)) := (HK1.out.trans B1 (fun _ _ e => e)).trans k3.1 (fun k hk e => by have := (ho2.lt k e).1; have := HZ1.out; omega)
        clear HK1 HO1 HC1 B1 ho2 ho3 k3 k2 hx hsz
        go_wp2_with (at_builtin; refine Lib.wpList_append_run_sl _ rfl _ _ 42 rfl _ _ rfl rfl (hap _) ?_)
        go_roundw
        case rel => exact ⟨i + 1, by omega, by simp <;> omega, HN, HKN⟩
        case measure => simp [intOf] <;> omega
      · rw [if_neg hUT] at hsn
        have HSn : Hid (tolD span (dl.take (i + 1)) T = tolD span (dl.take i) T) := hsn
        clear hsn HC
        have hbe : (U == T) = false := by simpa using hUT
        go_wp2_with fail
        refine wp_region_held_drew (S := (fun W => W.cell? ⟨d, 0, none⟩ = some (.int .i64 T))) (by kernel_rfl) ?_ (fun hHeld => ?_)
        · exact g0
        refine wpAnyH_take (i := 0) (oi := { dst := some 22, op := Op.move (Operand.tmp 0), type := 31, pos := "ref.go:124", after := #[], guard := none }) (v := ?_) rfl (by kernel_rfl) (by kernel_rfl) (by kernel_rfl) (fun _ _ _ h => h) (Or.inl ⟨by rfl, ?_⟩) (by assumption) ?_
        rotate_left
        · (intro w hSw; (try dsimp only at hSw); go_simp) <;> with_reducible rfl
        try simp only [Act.put, List.setIfInBounds_toArray, List.set_cons_zero, List.set_cons_succ]
        refine wpAnyH_take (i := 1) (oi := { dst := some 23, op := Op.move (Operand.tmp 4), type := 3, pos := "ref.go:124", after := #[], guard := none }) (v := ?_) rfl (by kernel_rfl) (by kernel_rfl) (by kernel_rfl) (fun _ _ _ h => h) (Or.inl ⟨by rfl, ?_⟩) (by assumption) ?_
        rotate_left
        · (intro w hSw; (try dsimp only at hSw); go_simp) <;> with_reducible rfl
        try simp only [Act.put, List.setIfInBounds_toArray, List.set_cons_zero, List.set_cons_succ]
        refine wpAnyH_take (i := 3) (oi := { dst := some 25, op := Op.move (Operand.tmp 0), type := 31, pos := "ref.go:124", after := #[], guard := none }) (v := ?_) rfl (by kernel_rfl) (by kernel_rfl) (by kernel_rfl) (fun _ _ _ h => h) (Or.inl ⟨by rfl, ?_⟩) (by assumption) ?_
        rotate_left
        · (intro w hSw; (try dsimp only at hSw); go_simp) <;> with_reducible rfl
        try simp only [Act.put, List.setIfInBounds_toArray, List.set_cons_zero, List.set_cons_succ]
        refine wpAnyH_take (i := 4) (oi := { dst := some 26, op := Op.nilCheck (Operand.tmp 25), type := 0, pos := "ref.go:124", after := #[{ on := 3, ground := Ground.data }], guard := none }) (v := ?_) rfl (by kernel_rfl) (by kernel_rfl) (by kernel_rfl) (fun _ _ _ h => h) (Or.inl ⟨by rfl, ?_⟩) (by assumption) ?_
        rotate_left
        · (intro w hSw; (try dsimp only at hSw); go_simp) <;> with_reducible rfl
        try simp only [Act.put, List.setIfInBounds_toArray, List.set_cons_zero, List.set_cons_succ]
        refine wpAnyH_take (i := 5) (oi := { dst := some 27, op := Op.fieldAddr 52 (Operand.tmp 26) 0, type := 0, pos := "ref.go:124", after := #[{ on := 4, ground := Ground.data }], guard := none }) (v := ?_) rfl (by kernel_rfl) (by kernel_rfl) (by kernel_rfl) (fun _ _ _ h => h) (Or.inl ⟨by rfl, ?_⟩) (by assumption) ?_
        rotate_left
        · (intro w hSw; (try dsimp only at hSw); go_simp) <;> with_reducible rfl
        try simp only [Act.put, List.setIfInBounds_toArray, List.set_cons_zero, List.set_cons_succ]
        refine wpAnyH_take (i := 6) (oi := { dst := some 28, op := Op.load 3 (Operand.tmp 27), type := 3, pos := "ref.go:124", after := #[{ on := 5, ground := Ground.data }], guard := none }) (v := ?_) rfl (by kernel_rfl) (by kernel_rfl) (by kernel_rfl) (fun _ _ _ h => h) (Or.inl ⟨by rfl, ?_⟩) (by assumption) ?_
        rotate_left
        · (intro w hSw; (try dsimp only at hSw); go_simp) <;> with_reducible rfl
        try simp only [Act.put, List.setIfInBounds_toArray, List.set_cons_zero, List.set_cons_succ]
        refine wpAnyH_ready (rs := [2]) (by kernel_rfl) (by simp) ?_
        refine AllReadyH.cons (o := { dst := some 24, op := Op.call { callee := Callee.value (Operand.func 32), args := #[Operand.tmp 22, Operand.tmp 23], argTypes := #[31, 3] }, type := 3, pos := "ref.go:124", after := #[{ on := 0, ground := Ground.data }, { on := 1, ground := Ground.data }], guard := none }) rfl (fun K hK => ?_) AllReadyH.nil
        go_simp
        refine Calls.mono HU.out ?_
        rintro r1 w1 ⟨rfl, hk1⟩
        have g1 : w1.cell? ⟨d, 0, none⟩ = some (.int .i64 T) := hk1.out.cell g0 (fun e => e)
        have HK1 : Hid (Kept W1 w1 (fun _ => False)) := (HK.out.drewN 1).trans hk1.out (fun _ _ e => e)
        have HO1 : Hid (OI w1 w.heap.size (.slice oa on oc) (tolD span (dl.take i) T)) := rowK (w := wr.drew) HO.out hk1.out (fun _ _ e => e)
        clear hk1 HU HO
        refine hK.out _ _ g1 (fun hHeld => ?_)
        clear hK K
        refine wpAnyH_take (i := 7) (oi := { dst := some 29, op := Op.binOp BinOp.eql 3 (Operand.tmp 24) (Operand.tmp 28) 3, type := 4, pos := "ref.go:124", after := #[{ on := 2, ground := Ground.data }, { on := 6, ground := Ground.data }], guard := none }) (v := ?_) rfl (by kernel_rfl) (by kernel_rfl) (by kernel_rfl) (fun _ _ _ h => h) (Or.inl ⟨by rfl, ?_⟩) (by assumption) ?_
        rotate_left
        · (intro w hSw; (try dsimp only at hSw); go_simp) <;> with_reducible rfl
        try simp only [Act.put, List.setIfInBounds_toArray, List.set_cons_zero, List.set_cons_succ]
        refine wpAnyH_done (by kernel_rfl) ?_ _
        clear hHeld g1 HK hx
        have HN : Hid (OI w1 w.heap.size (.slice oa on oc) (tolD span (dl.take (i + 1)) T)) := by rw [HSn.out]; exact HO1.out
        clear HO1
        go_wp2
        go_roundw
        case rel => exact ⟨i + 1, by omega, by simp <;> omega, HN, HK1⟩
        case measure => simp [intOf] <;> omega
    · have hd : decide ((i : Int) < (dl.length : Int)) = false := by simp; omega
      rw [List.take_of_length_le (show dl.length ≤ i by omega)] at HO HOn
      have hL := tolD_len span dl T
      rw [← HOn.out] at hL
      have HLn : Hid (on = (tolD span dl T).length) := HOn.out
      have HG : Hid ((tolD span dl T).foldl remD dl = goD span dl T) := goD_fold HUp.out T
      have HU : Hid (OI wr w.heap.size (.slice oa on oc) (tolD span dl T)) := HO.out
      have HD2 : Hid (DcTo w wr d sv bv T span dl) := ⟨sv, bv, C2.out wr HK.out, (HD1.out.2.mono (fun k _ e => .inl e)).trans HK.out (fun _ _ e => e.elim), fun _ e => .inl e⟩
      clear HO HOn HC HK C2 HD1 hzd HZ1
      go_wp2
      clear c2 hz hd
      go_loopw [5] (fun vj wr => ∃ j : Nat, j ≤ on ∧ vj = .int .i64 (j : Int) ∧ Hid (OI wr w.heap.size (.slice oa on oc) (tolD span dl T)) ∧ Hid (DcTo w wr d sv bv T span (((tolD span dl T).take j).foldl remD dl))) (fun vj _ => 1000 - (intOf vj).toNat)
      case atStart => exact ⟨0, by omega, rfl, HU.out, HD2.out⟩
      case round =>
        clear HU HD2
        obtain ⟨j, hj, rfl, HU, HD⟩ := hrel
        by_cases hjl : j < on
        · have hd : decide ((j : Int) < (on : Int)) = true := by simp; omega
          obtain ⟨id, hid⟩ : ∃ x, (tolD span dl T)[j]? = some x := ⟨_, List.getElem?_eq_getElem (by rw [← HLn.out]; exact hjl)⟩
          obtain ⟨g, cap, e', hcap, k1⟩ := oi_cell HU.out hid
          rw [← HLn.out] at e' hcap
          simp only [Value.slice.injEq, true_and] at e'
          obtain ⟨rfl, rfl⟩ := e'
          have hg : g < wr.heap.size := World.block_lt_of_cell? wr _ k1
          obtain ⟨vs, vb, hDc, hKd, hFd⟩ := HD.out
          have hfl := fold_len ((tolD span dl T).take j) dl
          have hat := told_there HUp.out hid
          have hfu := fold_up ((tolD span dl T).take j) HUp.out
          have hfn := fold_next hid (dl := dl)
          have HA := refAt hDc id (by omega)
          have HX : Hid (∀ k, AtD (((tolD span dl T).take j).foldl remD dl) id k → ∃ q : Nat, k = (q : Int) ∧ (((tolD span dl T).take j).foldl remD dl).eraseIdx q = ((tolD span dl T).take (j + 1)).foldl remD dl) := fun k hk => by
            rcases hk with ⟨_, hn⟩ | ⟨a, y, b, e, rfl, rfl⟩
            · exact absurd hat hn
            · exact ⟨a.length, rfl, by rw [hfn]; exact erase_rem hfu e⟩
          have HDc : Hid (Dc wr d vs vb T span (((tolD span dl T).take j).foldl remD dl) ∧ Kept w wr (FtD d sv bv) ∧ (∀ k, FtD d vs vb k → FtD d sv bv k ∨ w.heap.size ≤ k) ∧ (((tolD span dl T).take j).foldl remD dl).length ≤ 900) := ⟨hDc, hKd, hFd, by omega⟩
          have ige : (0 : Int) ≤ (j : Int) := by omega
          have ilt : (j : Int) < (on : Int) := by omega
          clear hDc hKd hFd hfl hat hfu hfn hid HD
          go_wp2_with fail
          refine Calls.mono HA ?_
          rintro e w1 ⟨k, rfl, hk, hw1⟩
          rw [hw1]
          obtain ⟨q, rfl, hq⟩ := HX.out k hk
          have HQ : Hid _ := hq
          have HO2 := refOut HDc.out.1 q (by have := HDc.out.2.2.2; omega)
          clear hk hw1 HA HX hq
          go_wp2_with fail
          refine Calls.mono HO2 ?_
          rintro e w2 ⟨rfl, vs2, vb2, HR⟩
          have HN : Hid (DcTo w w2 d sv bv T span (((tolD span dl T).take (j + 1)).foldl remD dl)) := by
            refine ⟨vs2, vb2, by rw [← HQ.out]; exact HR.out.1, HDc.out.2.1.trans HR.out.2.1 (fun k _ e => .inl e), fun k e => ?_⟩
            rcases HR.out.2.2 k e with e | e
            · exact .inl (.inl e)
            · have := HDc.out.2.1.size; exact .inr (by omega)
          have HUN : Hid (OI w2 w.heap.size (.slice (some ⟨g, 0, none⟩) on oc) (tolD span dl T)) := rowK HU.out HR.out.2.1 (fun k e e2 => by
            have e3 : k = d := e2
            obtain ⟨cs, e4⟩ := rowT HU.out e
            rw [e3, HDc.out.1.row] at e4
            simp at e4)
          clear HR HO2 HDc HU HQ k1
          go_wp2
          go_roundw
          case rel => exact ⟨j + 1, by omega, by simp <;> omega, HUN, HN⟩
          case measure => simp [intOf] <;> omega
        · have hd : decide ((j : Int) < (on : Int)) = false := by simp; omega
          have HE : Hid (DcTo w wr d sv bv T span (goD span dl T)) := by
            have := HD.out
            rw [List.take_of_length_le (show (tolD span dl T).length ≤ j by rw [← HLn.out]; omega), HG.out] at this
            exact this
          clear HD
          go_wp2
          all_goals (go_ret; exact ⟨_, rfl, HU.out, HE.out⟩)

end Go.Proofs.YtmniefmjdfdedaaGreatDoor
