/- What a disk tells of its files: their names, an image of all of them. -/
import Derived.Test.YtbdokdhconhifaaGreatDoorDkLJ
import Derived.Deep.MidRow
namespace Go.Proofs.YtbdokdhconhifaaGreatDoor
open Go.RowKit Go.Shelf
set_option maxRecDepth 8000

theorem Tryz.fileSz : (Tryz.prog.info? 71).map (·.size) = some 3 := by kernel_rfl
theorem Tryz.infoFile : (Tryz.prog.info? 71).map (fun i => (i.zero, i.size, i.bytes)) = some (some (.agg #[.string ⟨#[]⟩, .slice none 0 0, .int .i64 0]), 3, 48) := by kernel_rfl
theorem Tryz.infoStrD : (Tryz.prog.info? 9).map (fun i => (i.zero, i.size, i.bytes)) = some (some (.string ⟨#[]⟩), 1, 16) := by kernel_rfl

abbrev fiC (f : FiD) (u : Value) : List Value := [.string f.name, u, .int .i64 f.dur]
def imgC (fs : List FiD) (vs : List Value) : List Value := (List.zipWith fiC fs vs).flatten

/-- A list of files in memory of its own. -/
structure ImgAt (w : World) (B : Nat) (v : Value) (fs : List FiD) (vs : List Value) : Prop where
  len : vs.length = fs.length
  own : w.ownsRow B 71 3 v fs.length (imgC fs vs)
  bys : ∀ (i : Nat) u f, vs[i]? = some u → fs[i]? = some f → Owns w B u f.bytes

theorem imgC_len (fs : List FiD) (vs : List Value) (h : vs.length = fs.length) : (imgC fs vs).length = fs.length * 3 := by
  unfold imgC
  induction fs generalizing vs with
  | nil => cases vs <;> simp
  | cons f fs ih =>
    cases vs with
    | nil => simp at h
    | cons u vs =>
      simp only [List.zipWith_cons_cons, List.flatten_cons, List.length_append]
      rw [ih vs (by simpa using h)]
      simp
      omega

theorem imgC_snoc (fs : List FiD) (vs : List Value) (h : vs.length = fs.length) (f : FiD) (u : Value) : imgC (fs ++ [f]) (vs ++ [u]) = imgC fs vs ++ fiC f u := by
  unfold imgC
  rw [List.zipWith_append (by omega)]
  simp

theorem set3_take (l : List Value) (o : Nat) (a b c : Value) (h : o + 3 ≤ l.length) : (((l.set o a).set (o + 1) b).set (o + 1 + 1) c).take (o + 3) = l.take o ++ [a, b, c] := by
  apply List.ext_getElem?
  intro j
  rw [List.getElem?_take]
  by_cases h0 : j < o
  · rw [if_pos (by omega), List.getElem?_append_left (by simp; omega), List.getElem?_take, if_pos h0, List.getElem?_set, if_neg (by omega), List.getElem?_set, if_neg (by omega), List.getElem?_set, if_neg (by omega)]
  · rw [List.getElem?_append_right (by simp; omega)]
    have hl : (l.take o).length = o := by simp; omega
    rw [hl]
    by_cases h1 : j = o
    · subst h1
      rw [if_pos (by omega), List.getElem?_set, if_neg (by omega), List.getElem?_set, if_neg (by omega), List.getElem?_set, if_pos rfl, if_pos (by omega), Nat.sub_self]
      rfl
    · by_cases h2 : j = o + 1
      · subst h2
        rw [if_pos (by omega), List.getElem?_set, if_neg (by omega), List.getElem?_set, if_pos rfl, if_pos (by simp; omega), show o + 1 - o = 1 by omega]
        rfl
      · by_cases h3 : j = o + 1 + 1
        · subst h3
          rw [if_pos (by omega), List.getElem?_set, if_pos rfl, if_pos (by simp; omega), show o + 1 + 1 - o = 2 by omega]
          rfl
        · rw [if_neg (by omega), List.getElem?_eq_none (by simp; omega)]

set_option maxHeartbeats 1000000 in
theorem image_any {w : World} {p : Nat} {fv : Value} {ms : List FiM} {D : DkD} (h : IsDk w p fv ms D) (ok : DkOk D) :
    Calls Tryz.prog 37 #[.pointer (some ⟨p, 0, none⟩)] w fun e w' => e = .returned (.slice (some ⟨w.heap.size, 0, none⟩) D.files.length D.files.length) ∧ (∃ vs, ImgAt w' w.heap.size (.slice (some ⟨w.heap.size, 0, none⟩) D.files.length D.files.length) D.files vs) ∧ Below w.heap.size w w' := by
  obtain ⟨c0, c1, c2, c3, c4, c5⟩ := h.cells
  have hl := lt_of_block h.row
  obtain ⟨fa, fc, hfv, hfc, hfm⟩ := fv_shape h
  unfold maxLen at hfm
  have hlen := h.len
  have HFV : Hid _ := hfv
  rw [hfv, hlen] at c0
  rw [hlen] at hfc
  have HLN : Hid _ := hlen
  have HH : Hid (IsDk w p fv ms D ∧ DkOk D) := ⟨h, ok⟩
  have hfew := ok.few
  obtain ⟨i0, hi, hz0, hz1, hz2⟩ := info_parts Tryz.infoFile
  clear h ok hfv hlen c1 c2 c3 c4 c5
  obtain ⟨N, hN⟩ : ∃ N, N = D.files.length := ⟨_, rfl⟩
  rw [← hN] at c0 hfc hfew ⊢
  have HN : Hid _ := hN
  clear hN
  go_enter Tryz.func37, Tryz.ntmps37
  go_upto_region 2 with (at_make; refine wpList_make_full _ rfl _ _ 22 rfl w.heap.size 71 i0 _ 3 Tryz.underlying22 hi hz0 hz1 .i64 .i64 _ _ N rfl rfl (by omega) (by omega) (by rw [hz2]; omega) (by unfold maxLen; omega) (Nat.le_refl _) ?_)
  intro w2 hown hgrow
  have hb2 : Below w.heap.size w w2 := (Below.refl _ _).grown hgrow (Nat.le_refl _) (fun k hk => by simp at hk)
  obtain ⟨cur, hg, hsz⟩ : ∃ cur : Array Value, w2.heap[w.heap.size]? = some (.cells cur 71 (0, 0)) ∧ cur.size = N * 3 := by
    obtain ⟨_, ⟨e, _⟩ | ⟨g, cap, cur, e, _, h3, _, _, h6, _⟩⟩ := hown
    · cases e
    · simp at e
      obtain ⟨rfl, rfl⟩ := e
      exact ⟨cur, h3, h6⟩
  have d0 := cell_later c0 hb2 (Nat.le_refl _)
  have hl2 : p < w2.heap.size := Nat.lt_of_lt_of_le hl hb2.size
  have H0 : Hid (∃ (vs : List Value) (cur : Array Value), vs.length = 0 ∧ w2.heap[w.heap.size]? = some (.cells cur 71 (0, 0)) ∧ cur.size = N * 3 ∧ cur.toList.take (0 * 3) = imgC (D.files.take 0) vs ∧ (∀ (i : Nat) u f, vs[i]? = some u → D.files[i]? = some f → Owns w2 w.heap.size u f.bytes ∧ u.ownBlock ≠ some w.heap.size) ∧ Below w.heap.size w w2) := ⟨[], cur, rfl, hg, hsz, rfl, fun i u f h => by simp at h, hb2⟩
  clear hown hgrow hg hsz hb2 hi hz0 hz1 hz2 c0
  go_wp2_with fail
  go_loopw [17] (fun vi wr => ∃ k : Nat, k ≤ N ∧ vi = .int .i64 k ∧ Hid (∃ (vs : List Value) (cur : Array Value), vs.length = k ∧ wr.heap[w.heap.size]? = some (.cells cur 71 (0, 0)) ∧ cur.size = N * 3 ∧ cur.toList.take (k * 3) = imgC (D.files.take k) vs ∧ (∀ (i : Nat) u f, vs[i]? = some u → D.files[i]? = some f → Owns wr w.heap.size u f.bytes ∧ u.ownBlock ≠ some w.heap.size) ∧ Below w.heap.size w wr)) (fun vi _ => N - (intOf vi).toNat)
  case atStart => exact ⟨0, Nat.zero_le _, rfl, H0⟩
  case round =>
    obtain ⟨k, hk, rfl, HI⟩ := hrel
    clear H0 d0
    by_cases hlt : k < N
    · have hlt' : k < D.files.length := by rw [← HN.out]; exact hlt
      have hkm : k < ms.length := by rw [HLN.out]; exact hlt'
      obtain ⟨g, cap, hfv1, hp1⟩ := ptr_at HH.out.1 k hkm
      rw [HFV.out] at hfv1
      obtain ⟨rfl, rfl⟩ : fa = some ⟨g, 0, none⟩ ∧ fc = cap := by simpa using hfv1
      have hbw : Below w.heap.size w wr := by obtain ⟨_, _, _, _, _, _, _, h⟩ := HI.out; exact h
      have hf0 := HH.out.1.file k _ _ (List.getElem?_eq_getElem hkm) (List.getElem?_eq_getElem hlt')
      have hf1 : FileAt wr ms[k] D.files[k] := hf0.kept (Below.kept hbw) (fun e => by have := lt_of_block hf0.row; omega) (fun j e e' => by have := rows_ltK hf0.own e; omega)
      have hp2 := cell_later hp1 hbw (Nat.le_refl _)
      obtain ⟨k0, k1, k2⟩ := fl_cells' hf1
      have hlm := lt_of_block hf1.row
      have hsm : D.files[k].bytes.length ≤ 1000000000000 := by
        have := len_used (List.getElem_mem hlt')
        have := HH.out.2.fits
        have := HH.out.2.r1
        omega
      have hmB : ms[k].q ≠ w.heap.size := fun e => by have := lt_of_block hf0.row; omega
      obtain ⟨mq, hmq⟩ : ∃ mq, mq = ms[k].q := ⟨_, rfl⟩
      obtain ⟨nm, hnm⟩ : ∃ nm, nm = D.files[k].name := ⟨_, rfl⟩
      obtain ⟨du, hdu⟩ : ∃ du, du = D.files[k].dur := ⟨_, rfl⟩
      obtain ⟨bl, hbl⟩ : ∃ bl, bl = D.files[k].bytes.length := ⟨_, rfl⟩
      have HCO : Hid (∀ V : World, Below wr.heap.size wr V → V.heap.size = wr.heap.size → Calls Tryz.prog 35 #[.pointer (some ⟨mq, 0, none⟩)] V fun e w' => e = .returned (.slice (some ⟨wr.heap.size, 0, none⟩) bl bl) ∧ Owns w' wr.heap.size (.slice (some ⟨wr.heap.size, 0, none⟩) bl bl) D.files[k].bytes ∧ Below V.heap.size V w') := fun V hV hs => by
        have h := copied_any (hf1.kept (Below.kept hV) (fun e => by omega) (fun j e e' => by have := rows_ltK hf1.own e; omega)) hsm
        rw [hmq, hbl]
        rw [hs] at h
        rw [hs]
        exact h
      have HTH : Hid (∀ V : World, Below wr.heap.size wr.drew V → V.there w.heap.size (k * 3) 3) := fun V hV j hj => by
        obtain ⟨vs, cur, _, hg, hsz, _⟩ := HI.out
        have hg' : V.heap[w.heap.size]? = some (.cells cur 71 (0, 0)) := (Below.kept hV).heap hg (fun e => by have := lt_of_block hg; have : w.heap.size < wr.heap.size := this; omega)
        refine ⟨?_, frozen_of_row V _ _ _ _ hg'⟩
        rw [cell_of_row V _ _ _ _ _ hg', Array.getElem?_eq_getElem (by omega)]
        rfl
      have HST : Hid (∀ V : World, Below wr.heap.size wr.drew V → (V.setCells w.heap.size (k * 3) [.string nm, .slice (some ⟨wr.heap.size, 0, none⟩) bl bl, .int .i64 du]).cell? ⟨mq, 0, none⟩ = some (.string nm) ∧ (V.setCells w.heap.size (k * 3) [.string nm, .slice (some ⟨wr.heap.size, 0, none⟩) bl bl, .int .i64 du]).cell? ⟨mq, 2, none⟩ = some (.int .i64 du)) := fun V hV => by
        rw [World.cell?_setCells_out _ _ _ _ _ (fun e _ => absurd (e.symm.trans hmq).symm hmB), World.cell?_setCells_out _ _ _ _ _ (fun e _ => absurd (e.symm.trans hmq).symm hmB)]
        rw [hmq, hnm, hdu]
        exact ⟨cell_later (w := wr.drew) k0 hV (Nat.le_refl _), cell_later (w := wr.drew) k2 hV (Nat.le_refl _)⟩
      have HQ : Hid (_ ∧ _ ∧ _ ∧ _) := And.intro hmq (And.intro hnm (And.intro hdu hbl))
      rw [← hmq] at hp2 k0 k2 hlm
      rw [← hnm] at k0
      rw [← hdu] at k2
      have HKK : Hid (k < D.files.length ∧ Below w.heap.size w wr) := ⟨hlt', hbw⟩
      clear hmq hnm hdu hbl hf0 hf1 hp1 k1 hsm hmB hfv1 hbw
      go_wp2_with fail
      refine wp_region_held_drew (S := fun w' => w'.cell? ⟨mq, 0, none⟩ = some (.string nm) ∧ w'.cell? ⟨mq, 2, none⟩ = some (.int .i64 du)) (by kernel_rfl) ?_ (fun hHeld => ?_)
      · exact ⟨k0, k2⟩
      refine wpAnyH_take (i := 0) (oi := { dst := some 22, op := Op.move (Operand.tmp 3), type := 22, pos := "shelf.go:108", after := #[], guard := none }) (v := ?_) rfl (by kernel_rfl) (by kernel_rfl) (by kernel_rfl) (fun _ _ _ h => h) (Or.inl ⟨by rfl, ?_⟩) (by assumption) ?_
      rotate_left
      · (intro w hSw; (try dsimp only at hSw); go_simp) <;> with_reducible rfl
      try simp only [Act.put, List.setIfInBounds_toArray, List.set_cons_zero, List.set_cons_succ]
      refine wpAnyH_take (i := 1) (oi := { dst := some 23, op := Op.move (Operand.tmp 4), type := 3, pos := "shelf.go:108", after := #[], guard := none }) (v := ?_) rfl (by kernel_rfl) (by kernel_rfl) (by kernel_rfl) (fun _ _ _ h => h) (Or.inl ⟨by rfl, ?_⟩) (by assumption) ?_
      rotate_left
      · (intro w hSw; (try dsimp only at hSw); go_simp) <;> with_reducible rfl
      try simp only [Act.put, List.setIfInBounds_toArray, List.set_cons_zero, List.set_cons_succ]
      refine wpAnyH_take (i := 2) (oi := { dst := some 24, op := Op.move (Operand.tmp 5), type := 90, pos := "shelf.go:108", after := #[], guard := none }) (v := ?_) rfl (by kernel_rfl) (by kernel_rfl) (by kernel_rfl) (fun _ _ _ h => h) (Or.inl ⟨by rfl, ?_⟩) (by assumption) ?_
      rotate_left
      · (intro w hSw; (try dsimp only at hSw); go_simp) <;> with_reducible rfl
      try simp only [Act.put, List.setIfInBounds_toArray, List.set_cons_zero, List.set_cons_succ]
      refine wpAnyH_take (i := 3) (oi := { dst := some 25, op := Op.nilCheck (Operand.tmp 24), type := 0, pos := "shelf.go:108", after := #[{ on := 2, ground := Ground.data }], guard := none }) (v := ?_) rfl (by kernel_rfl) (by kernel_rfl) (by kernel_rfl) (fun _ _ _ h => h) (Or.inl ⟨by rfl, ?_⟩) (by assumption) ?_
      rotate_left
      · (intro w hSw; (try dsimp only at hSw); go_simp) <;> with_reducible rfl
      try simp only [Act.put, List.setIfInBounds_toArray, List.set_cons_zero, List.set_cons_succ]
      refine wpAnyH_take (i := 4) (oi := { dst := some 26, op := Op.fieldAddr 122 (Operand.tmp 25) 0, type := 0, pos := "shelf.go:108", after := #[{ on := 3, ground := Ground.data }], guard := none }) (v := ?_) rfl (by kernel_rfl) (by kernel_rfl) (by kernel_rfl) (fun _ _ _ h => h) (Or.inl ⟨by rfl, ?_⟩) (by assumption) ?_
      rotate_left
      · (intro w hSw; (try dsimp only at hSw); go_simp) <;> with_reducible rfl
      try simp only [Act.put, List.setIfInBounds_toArray, List.set_cons_zero, List.set_cons_succ]
      refine wpAnyH_take (i := 5) (oi := { dst := some 27, op := Op.load 9 (Operand.tmp 26), type := 9, pos := "shelf.go:108", after := #[{ on := 4, ground := Ground.data }], guard := none }) (v := ?_) rfl (by kernel_rfl) (by kernel_rfl) (by kernel_rfl) (fun _ _ _ h => h) (Or.inl ⟨by rfl, ?_⟩) (by assumption) ?_
      rotate_left
      · (intro w hSw; (try dsimp only at hSw); go_simp) <;> with_reducible rfl
      try simp only [Act.put, List.setIfInBounds_toArray, List.set_cons_zero, List.set_cons_succ]
      refine wpAnyH_take (i := 6) (oi := { dst := some 28, op := Op.move (Operand.tmp 5), type := 90, pos := "shelf.go:108", after := #[], guard := none }) (v := ?_) rfl (by kernel_rfl) (by kernel_rfl) (by kernel_rfl) (fun _ _ _ h => h) (Or.inl ⟨by rfl, ?_⟩) (by assumption) ?_
      rotate_left
      · (intro w hSw; (try dsimp only at hSw); go_simp) <;> with_reducible rfl
      try simp only [Act.put, List.setIfInBounds_toArray, List.set_cons_zero, List.set_cons_succ]
      refine wpAnyH_take (i := 8) (oi := { dst := some 30, op := Op.move (Operand.tmp 5), type := 90, pos := "shelf.go:108", after := #[], guard := none }) (v := ?_) rfl (by kernel_rfl) (by kernel_rfl) (by kernel_rfl) (fun _ _ _ h => h) (Or.inl ⟨by rfl, ?_⟩) (by assumption) ?_
      rotate_left
      · (intro w hSw; (try dsimp only at hSw); go_simp) <;> with_reducible rfl
      try simp only [Act.put, List.setIfInBounds_toArray, List.set_cons_zero, List.set_cons_succ]
      refine wpAnyH_take (i := 9) (oi := { dst := some 31, op := Op.nilCheck (Operand.tmp 30), type := 0, pos := "shelf.go:108", after := #[{ on := 8, ground := Ground.data }], guard := none }) (v := ?_) rfl (by kernel_rfl) (by kernel_rfl) (by kernel_rfl) (fun _ _ _ h => h) (Or.inl ⟨by rfl, ?_⟩) (by assumption) ?_
      rotate_left
      · (intro w hSw; (try dsimp only at hSw); go_simp) <;> with_reducible rfl
      try simp only [Act.put, List.setIfInBounds_toArray, List.set_cons_zero, List.set_cons_succ]
      refine wpAnyH_take (i := 10) (oi := { dst := some 32, op := Op.fieldAddr 122 (Operand.tmp 31) 2, type := 0, pos := "shelf.go:108", after := #[{ on := 9, ground := Ground.data }], guard := none }) (v := ?_) rfl (by kernel_rfl) (by kernel_rfl) (by kernel_rfl) (fun _ _ _ h => h) (Or.inl ⟨by rfl, ?_⟩) (by assumption) ?_
      rotate_left
      · (intro w hSw; (try dsimp only at hSw); go_simp) <;> with_reducible rfl
      try simp only [Act.put, List.setIfInBounds_toArray, List.set_cons_zero, List.set_cons_succ]
      refine wpAnyH_take (i := 11) (oi := { dst := some 33, op := Op.load 3 (Operand.tmp 32), type := 3, pos := "shelf.go:108", after := #[{ on := 10, ground := Ground.data }], guard := none }) (v := ?_) rfl (by kernel_rfl) (by kernel_rfl) (by kernel_rfl) (fun _ _ _ h => h) (Or.inl ⟨by rfl, ?_⟩) (by assumption) ?_
      rotate_left
      · (intro w hSw; (try dsimp only at hSw); go_simp) <;> with_reducible rfl
      try simp only [Act.put, List.setIfInBounds_toArray, List.set_cons_zero, List.set_cons_succ]
      refine wpAnyH_ready (rs := [7]) (by kernel_rfl) (by simp) ?_
      refine AllReadyH.cons (o := { dst := some 29, op := Op.call { callee := Callee.value (Operand.func 35), args := #[Operand.tmp 28], argTypes := #[90] }, type := 58, pos := "shelf.go:108", after := #[{ on := 6, ground := Ground.data }], guard := none }) rfl (fun K hK => ?_) AllReadyH.nil
      go_simp
      refine Calls.mono (HCO.out _ (below_drewN (Below.refl _ _) 1) rfl) ?_
      rintro e w5 ⟨rfl, ho5, hb5⟩
      have H5 : Hid (_ ∧ _) := ⟨ho5, hb5⟩
      have x0 := cell_later (w := wr.drew) k0 hb5 (Nat.le_refl _)
      have x2 := cell_later (w := wr.drew) k2 hb5 (Nat.le_refl _)
      clear ho5 hb5
      refine hK.out _ _ ⟨x0, x2⟩ (fun hHeld => ?_)
      clear hK K
      refine wpAnyH_take (i := 12) (oi := { dst := some 34, op := Op.build 71 #[(0, Operand.tmp 27), (1, Operand.tmp 29), (2, Operand.tmp 33)], type := 71, pos := "shelf.go:108", after := #[{ on := 5, ground := Ground.data }, { on := 7, ground := Ground.data }, { on := 11, ground := Ground.data }], guard := none }) (v := ?_) rfl (by kernel_rfl) (by kernel_rfl) (by kernel_rfl) (fun _ _ _ h => h) (Or.inl ⟨by rfl, ?_⟩) (by assumption) ?_
      rotate_left
      · (intro w hSw; (try dsimp only at hSw); go_simp) <;> with_reducible rfl
      try simp only [Act.put, List.setIfInBounds_toArray, List.set_cons_zero, List.set_cons_succ]
      refine wpAnyH_take (i := 13) (oi := { dst := some 35, op := Op.indexAddr 22 (Operand.tmp 22) (Operand.tmp 23), type := 0, pos := "shelf.go:108", after := #[{ on := 0, ground := Ground.data }, { on := 1, ground := Ground.data }, { on := 0, ground := Ground.phase }, { on := 1, ground := Ground.phase }, { on := 2, ground := Ground.phase }, { on := 3, ground := Ground.phase }, { on := 4, ground := Ground.phase }, { on := 5, ground := Ground.phase }, { on := 6, ground := Ground.phase }, { on := 7, ground := Ground.phase }, { on := 8, ground := Ground.phase }, { on := 9, ground := Ground.phase }, { on := 10, ground := Ground.phase }, { on := 11, ground := Ground.phase }, { on := 12, ground := Ground.phase }], guard := none }) (v := ?_) rfl (by kernel_rfl) (by kernel_rfl) (by kernel_rfl) (fun _ _ _ h => h) (Or.inl ⟨by rfl, ?_⟩) (by assumption) ?_
      rotate_left
      · (intro w hSw; (try dsimp only at hSw); go_simp) <;> with_reducible rfl
      try simp only [Act.put, List.setIfInBounds_toArray, List.set_cons_zero, List.set_cons_succ]
      refine wpAnyH_ready (rs := [14]) (by kernel_rfl) (by simp) ?_
      refine AllReadyH.cons (o := { dst := none, op := Op.store 71 (Operand.tmp 35) (Operand.tmp 34), type := 0, pos := "shelf.go:108", after := #[{ on := 13, ground := Ground.data }, { on := 12, ground := Ground.data }, { on := 7, ground := Ground.chain }, { on := 0, ground := Ground.phase }, { on := 1, ground := Ground.phase }, { on := 2, ground := Ground.phase }, { on := 3, ground := Ground.phase }, { on := 4, ground := Ground.phase }, { on := 5, ground := Ground.phase }, { on := 6, ground := Ground.phase }, { on := 7, ground := Ground.phase }, { on := 8, ground := Ground.phase }, { on := 9, ground := Ground.phase }, { on := 10, ground := Ground.phase }, { on := 11, ground := Ground.phase }, { on := 12, ground := Ground.phase }], guard := none }) rfl (fun K hK => ?_) AllReadyH.nil
      rw [if_pos (by rfl)]
      refine wp_store_mid 71 _ _ rfl w.heap.size (k * 3) #[.string nm, .slice (some ⟨wr.heap.size, 0, none⟩) bl bl, .int .i64 du] rfl rfl (HTH.out w5 H5.out.2) Tryz.fileSz (by simp [Value.oneCell']) ?_
      have y0 := (HST.out w5 H5.out.2).1
      have y2 := (HST.out w5 H5.out.2).2
      refine hK.out _ _ ⟨y0, y2⟩ (fun hHeld => ?_)
      clear hK K
      refine wpAnyH_done (by kernel_rfl) ?_ _
      have HR : Hid (∃ (vs : List Value) (cur : Array Value), vs.length = k + 1 ∧ (w5.setCells w.heap.size (k * 3) [.string nm, .slice (some ⟨wr.heap.size, 0, none⟩) bl bl, .int .i64 du]).heap[w.heap.size]? = some (.cells cur 71 (0, 0)) ∧ cur.size = N * 3 ∧ cur.toList.take ((k + 1) * 3) = imgC (D.files.take (k + 1)) vs ∧ (∀ (i : Nat) u f, vs[i]? = some u → D.files[i]? = some f → Owns (w5.setCells w.heap.size (k * 3) [.string nm, .slice (some ⟨wr.heap.size, 0, none⟩) bl bl, .int .i64 du]) w.heap.size u f.bytes ∧ u.ownBlock ≠ some w.heap.size) ∧ Below w.heap.size w (w5.setCells w.heap.size (k * 3) [.string nm, .slice (some ⟨wr.heap.size, 0, none⟩) bl bl, .int .i64 du])) := by
        obtain ⟨vs, cur, hvl, hg, hsz, htk, hbs, hbw⟩ := HI.out
        obtain ⟨ho5, hb5⟩ := H5.out
        obtain ⟨_, hnm, hdu, hbl⟩ := HQ.out
        have hlB : w.heap.size < wr.heap.size := lt_of_block hg
        have hg5 : w5.heap[w.heap.size]? = some (.cells cur 71 (0, 0)) := (Below.kept hb5).heap hg (fun e => by have : wr.heap.size ≤ w.heap.size := e; omega)
        have hk5 : Kept w5 (w5.setCells w.heap.size (k * 3) [.string nm, .slice (some ⟨wr.heap.size, 0, none⟩) bl bl, .int .i64 du]) (fun j => j = w.heap.size) := Kept.setCell (Kept.setCell (Kept.setCell (Kept.refl _ (fun j => j = w.heap.size)) ⟨w.heap.size, k * 3, none⟩ _ (fun _ => rfl)) ⟨w.heap.size, k * 3 + 1, none⟩ _ (fun _ => rfl)) ⟨w.heap.size, k * 3 + 1 + 1, none⟩ _ (fun _ => rfl)
        have hl5 : Below wr.heap.size wr w5 := Below.step (below_drewN (Below.refl _ _) 1) hb5
        refine ⟨vs ++ [.slice (some ⟨wr.heap.size, 0, none⟩) bl bl], ((cur.setIfInBounds (k * 3) (.string nm)).setIfInBounds (k * 3 + 1) (.slice (some ⟨wr.heap.size, 0, none⟩) bl bl)).setIfInBounds (k * 3 + 1 + 1) (.int .i64 du), by simp [hvl], heap_setK _ (heap_setK _ (heap_setK _ hg5)), by simp [hsz], ?_, fun i u f hu hf => ?_, (Below.step hbw hl5).trans (hk5.below (Nat.le_trans hbw.size hl5.size) (fun j e => by omega))⟩
        · have e1 : D.files.take (k + 1) = D.files.take k ++ [D.files[k]'HKK.out.1] := by rw [List.take_add_one, List.getElem?_eq_getElem HKK.out.1]; rfl
          rw [e1, imgC_snoc _ _ (by simp [hvl]; have := HKK.out.1; omega), ← htk, hnm, hdu]
          simp only [Array.toList_setIfInBounds]
          rw [show (k + 1) * 3 = k * 3 + 3 by omega, set3_take _ _ _ _ _ (by simp [hsz]; omega)]
        · by_cases hi : i < k
          · rw [List.getElem?_append_left (by omega)] at hu
            obtain ⟨q1, q2⟩ := hbs i u f hu hf
            have q3 : Owns w5 w.heap.size u f.bytes := q1.kept (Below.kept hl5) (fun j e e' => by have := rows_ltK q1 e; omega)
            exact ⟨q3.kept hk5 (fun j e e' => q2 (by rw [e, e'])), q2⟩
          · rw [List.getElem?_append_right (by omega), hvl] at hu
            have hik : i = k := by
              by_cases h : i - k = 0
              · omega
              · rw [List.getElem?_eq_none (by simp; omega)] at hu; cases hu
            subst hik
            rw [Nat.sub_self] at hu
            cases hu
            rw [List.getElem?_eq_getElem HKK.out.1] at hf
            cases hf
            have hne : ∀ j, (Value.slice (some ⟨wr.heap.size, 0, none⟩) bl bl).ownBlock = some j → j ≠ w.heap.size := fun j e e' => by
              have h1 : wr.heap.size = j := by simpa [Value.ownBlock] using e
              omega
            exact ⟨(owns_mono ho5 (by omega)).kept hk5 (fun j e e' => hne j e e'), fun e => hne _ e rfl⟩
      clear HI HTH HST HCO HQ HKK H5 x0 x2 y0 y2 k0 k2 hHeld
      go_wp2_with fail
      go_roundw
      case rel => exact ⟨k + 1, by omega, by go_num, HR⟩
      case measure => simp [intOf]; omega
    · obtain rfl : k = N := by omega
      go_wp2_with fail
      go_ret
      obtain ⟨vs, cur, hvl, hg, hsz, htk, hbs, hbw⟩ := HI.out
      have e : D.files.take k = D.files := List.take_of_length_le (by have := HN.out; omega)
      rw [e] at htk
      refine ⟨rfl, ⟨vs, ?_⟩, hbw⟩
      refine ⟨by rw [hvl]; exact HN.out, ⟨?_, .inr ⟨w.heap.size, k, cur, by rw [← HN.out], Nat.le_refl _, hg, by rw [← HN.out]; exact Nat.le_refl _, by unfold maxLen; omega, hsz, by rw [← HN.out]; exact htk⟩⟩, fun i u f hu hf => (hbs i u f hu hf).1⟩
      exact imgC_len _ _ (by rw [hvl]; exact HN.out)
end Go.Proofs.YtbdokdhconhifaaGreatDoor
