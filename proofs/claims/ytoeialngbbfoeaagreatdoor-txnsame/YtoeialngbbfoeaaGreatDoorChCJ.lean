/- txn.sameRequest and txn.Same of any two: true where the data are the same, and there alone. -/
import Derived.Test.YtoeialngbbfoeaaGreatDoorBqIJ
import Derived.Test.YtoeialngbbfoeaaGreatDoorBqJJ
import Derived.Test.YtoeialngbbfoeaaGreatDoorWrTJ
import Derived.Test.YtoeialngbbfoeaaGreatDoorProg
import Derived.Test.YtoeialngbbfoeaaGreatDoorLeafSumJ
import Derived.Test.YtoeialngbbfoeaaGreatDoorEqQJ
import Derived.Maps.AppendAt
import Derived.Deep.RegionHeld2
import Derived.Test.YtoeialngbbfoeaaGreatDoorWkChkJ
import Derived.Laws.FloatArith
import Derived.Laws.NewFold
import Derived.Deep.MidRow
import Derived.Deep.CutRange
import Derived.BigQuiet
import Derived.Deep.RegionHeld
namespace Go.Proofs.YtoeialngbbfoeaaGreatDoor
open Go.RowKit
set_option maxRecDepth 8000
set_option linter.unusedVariables false

set_option maxHeartbeats 1000000 in
theorem sameRequest_any (r : Rq) : ∀ (r' : Rq) (cs ds : List Value) (w : World), SeesRq w cs r → SeesRq w ds r' → r.good → r'.good → Calls Tryz.prog 19 #[.agg cs.toArray, .agg ds.toArray] w fun e w' => ∃ b : Bool, e = .returned (.bool b) ∧ (b = true ↔ r = r') ∧ Below w.heap.size w w' := by
  induction r with
  | mk f n ops ih =>
    intro r' cs ds w hcs hds hg hg'
    by_cases hrr : Rq.mk f n ops = r'
    · subst hrr
      refine (sameRequest_same _ cs ds w hcs hds).mono ?_
      rintro e w' ⟨rfl, h⟩
      exact ⟨true, rfl, ⟨fun _ => rfl, fun _ => rfl⟩, h⟩
    cases r' with
    | mk f' n' ops' =>
    have hf := fun e w' (h : e = Ending.returned (.bool false) ∧ Below w.heap.size w w') => (⟨false, h.1, ⟨fun h => (by cases h), fun h => absurd h hrr⟩, h.2⟩ : ∃ b : Bool, e = .returned (.bool b) ∧ (b = true ↔ Rq.mk f n ops = Rq.mk f' n' ops') ∧ Below w.heap.size w w')
    obtain ⟨dv, av, wv, ov, oc, rfl, hd, ha, hw, ho, hs⟩ := rq_inv hcs
    obtain ⟨dv', av', wv', ov', oc', rfl, hd', ha', hw', ho', hs'⟩ := rq_inv hds
    obtain ⟨gf, _, gs⟩ := hg
    obtain ⟨gf', _, gs'⟩ := hg'
    have bx := gf.byts
    have by' := gf'.byts
    have HDf : f.data ≠ f'.data → ∀ W : World, Below w.heap.size w W → Calls Tryz.prog 70 #[dv, dv'] W fun e w' => e = .returned (.bool false) ∧ Below W.heap.size W w' := fun hne W hW => by
      refine (bytesEqual_sound dv dv' _ _ W (hd.below hW (Nat.le_refl _)) (hd'.below hW (Nat.le_refl _)) bx by').mono ?_
      rintro e w' ⟨b, rfl, hb, rfl⟩
      cases b with
      | true => exact absurd (hb rfl) hne
      | false => exact ⟨rfl, Below.refl _ _⟩
    have HDt : f.data = f'.data → ∀ W : World, Below w.heap.size w W → Calls Tryz.prog 70 #[dv, dv'] W fun e w' => e = .returned (.bool true) ∧ Below W.heap.size W w' := fun he W hW => by
      refine (bytesEqual_same dv dv' _ W (hd.below hW (Nat.le_refl _)) (by rw [he]; exact hd'.below hW (Nat.le_refl _))).mono ?_
      rintro e w' ⟨rfl, rfl⟩
      exact ⟨rfl, Below.refl _ _⟩
    have HAf : f.acl ≠ f'.acl → ∀ W : World, Below w.heap.size w W → Calls Tryz.prog 71 #[av, av'] W fun e w' => e = .returned (.bool false) ∧ Below W.heap.size W w' := fun hne W hW => by
      refine (slEqEntry_sound av av' _ _ W (ha.below hW (Nat.le_refl _)) (ha'.below hW (Nat.le_refl _))).mono ?_
      rintro e w' ⟨b, rfl, hb, h⟩
      cases b with
      | true => exact absurd (hb rfl) hne
      | false => exact ⟨rfl, below_of_drewN h⟩
    have HAt : f.acl = f'.acl → ∀ W : World, Below w.heap.size w W → Calls Tryz.prog 71 #[av, av'] W fun e w' => e = .returned (.bool true) ∧ Below W.heap.size W w' := fun he W hW => by
      refine (slEqEntry_same av av' _ W (ha.below hW (Nat.le_refl _)) (by rw [he]; exact ha'.below hW (Nat.le_refl _))).mono ?_
      rintro e w' ⟨rfl, h⟩
      exact ⟨rfl, below_of_drewN h⟩
    have HWf : f.who ≠ f'.who → ∀ W : World, Below w.heap.size w W → Calls Tryz.prog 72 #[wv, wv'] W fun e w' => e = .returned (.bool false) ∧ Below W.heap.size W w' := fun hne W hW => by
      refine (slEqId_sound wv wv' _ _ W (hw.below hW (Nat.le_refl _)) (hw'.below hW (Nat.le_refl _))).mono ?_
      rintro e w' ⟨b, rfl, hb, h⟩
      cases b with
      | true => exact absurd (hb rfl) hne
      | false => exact ⟨rfl, below_of_drewN h⟩
    have HWt : f.who = f'.who → ∀ W : World, Below w.heap.size w W → Calls Tryz.prog 72 #[wv, wv'] W fun e w' => e = .returned (.bool true) ∧ Below W.heap.size W w' := fun he W hW => by
      refine (slEqId_same wv wv' _ W (hw.below hW (Nat.le_refl _)) (by rw [he]; exact hw'.below hW (Nat.le_refl _))).mono ?_
      rintro e w' ⟨rfl, h⟩
      exact ⟨rfl, below_of_drewN h⟩
    have HOf : f = f' → ∀ W : World, Below w.heap.size w W → Calls Tryz.prog 73 #[ov, ov', .func (.func 19) #[] #[]] W fun e w' => e = .returned (.bool false) ∧ Below W.heap.size W w' := fun he W hW => by
      refine (eqFuncRq_sound n n' ops ops' oc oc' ov ov' W (ho.below hW (Nat.le_refl _)) (ho'.below hW (Nat.le_refl _)) (fun i => (hs i).later hW (Nat.le_refl _)) (fun i => (hs' i).later hW (Nat.le_refl _)) (fun i j V hV => ?_)).mono ?_
      · refine (ih i (ops' j) (oc i) (oc' j) V ((hs i).later (hW.trans (hV.mono hW.size)) (Nat.le_refl _)) ((hs' j).later (hW.trans (hV.mono hW.size)) (Nat.le_refl _)) (gs i) (gs' j)).mono ?_
        rintro e w' ⟨b, rfl, hb, h⟩
        exact ⟨b, rfl, hb.1, h⟩
      · rintro e w' ⟨b, rfl, hb, h⟩
        cases b with
        | true =>
          obtain ⟨e1, e2⟩ := hb rfl
          subst e1
          subst he
          exact absurd (by rw [show ops = ops' from e2]) hrr
        | false => exact ⟨rfl, h⟩
    obtain ⟨dx0, dx1, dx2, rfl⟩ := sees_form hd
    obtain ⟨ax0, ax1, ax2, rfl⟩ := seesR_form ha
    obtain ⟨wx0, wx1, wx2, rfl⟩ := seesR_form hw
    obtain ⟨ox0, ox1, ox2, rfl⟩ := seesR_form ho
    obtain ⟨dy0, dy1, dy2, rfl⟩ := sees_form hd'
    obtain ⟨ay0, ay1, ay2, rfl⟩ := seesR_form ha'
    obtain ⟨wy0, wy1, wy2, rfl⟩ := seesR_form hw'
    obtain ⟨oy0, oy1, oy2, rfl⟩ := seesR_form ho'
    clear hd ha hw ho hs hd' ha' hw' ho' hs' hcs hds ih gf gf' gs gs' bx by' hrr
    obtain ⟨kind, path, data, acl, ver, eph, seq, ses, tmo, who⟩ := f
    obtain ⟨kind', path', data', acl', ver', eph', seq', ses', tmo', who'⟩ := f'
    simp only at HDf HDt HAf HAt HWf HWt
    simp only [rqCells]
    by_cases h0 : kind = kind'
    rotate_left
    · exact Calls.mono (sd_0 _ _ _ _ _ _ _ _ _ _ _ _ _ _ _ _ _ _ _ _ _ _ _ _ _ _ _ _ _ _ _ _ _ _ _ _ _ _  w (by simpa using h0)) hf
    subst h0
    by_cases h1 : path = path'
    rotate_left
    · exact Calls.mono (sd_1 _ _ _ _ _ _ _ _ _ _ _ _ _ _ _ _ _ _ _ _ _ _ _ _ _ _ _ _ _ _ _ _ _ _ _ _ _  w (by rw [beq_eq_false_iff_ne]; exact fun e => h1 (bytes_same (by simpa using e)))) hf
    subst h1
    by_cases h2 : data = data'
    rotate_left
    · exact Calls.mono (sd_2 _ _ _ _ _ _ _ _ _ _ _ _ _ _ _ _ _ _ _ _ _ _ _ _ _ _ _ _ _ _ _ _ _ _ _ _  w (HDf h2)) hf
    have H2 := HDt h2
    by_cases h3 : acl = acl'
    rotate_left
    · exact Calls.mono (sd_3 _ _ _ _ _ _ _ _ _ _ _ _ _ _ _ _ _ _ _ _ _ _ _ _ _ _ _ _ _ _ _ _ _ _ _ _  w (H2) (HAf h3)) hf
    have H3 := HAt h3
    by_cases h4 : ver = ver'
    rotate_left
    · exact Calls.mono (sd_4 _ _ _ _ _ _ _ _ _ _ _ _ _ _ _ _ _ _ _ _ _ _ _ _ _ _ _ _ _ _ _ _ _ _ _ _  w (H2) (H3) (by simpa using h4)) hf
    subst h4
    by_cases h5 : eph = eph'
    rotate_left
    · obtain rfl : eph' = !eph := by cases eph <;> cases eph' <;> simp_all
      exact Calls.mono (sd_5 _ _ _ _ _ _ _ _ _ _ _ _ _ _ _ _ _ _ _ _ _ _ _ _ _ _ _ _ _ _ _ _ _ _  w (H2) (H3)) hf
    subst h5
    by_cases h6 : seq = seq'
    rotate_left
    · obtain rfl : seq' = !seq := by cases seq <;> cases seq' <;> simp_all
      exact Calls.mono (sd_6 _ _ _ _ _ _ _ _ _ _ _ _ _ _ _ _ _ _ _ _ _ _ _ _ _ _ _ _ _ _ _ _ _  w (H2) (H3)) hf
    subst h6
    by_cases h7 : ses = ses'
    rotate_left
    · exact Calls.mono (sd_7 _ _ _ _ _ _ _ _ _ _ _ _ _ _ _ _ _ _ _ _ _ _ _ _ _ _ _ _ _ _ _ _ _  w (H2) (H3) (by simpa using h7)) hf
    subst h7
    by_cases h8 : tmo = tmo'
    rotate_left
    · exact Calls.mono (sd_8 _ _ _ _ _ _ _ _ _ _ _ _ _ _ _ _ _ _ _ _ _ _ _ _ _ _ _ _ _ _ _ _  w (H2) (H3) (by simpa using h8)) hf
    subst h8
    by_cases h9 : who = who'
    rotate_left
    · exact Calls.mono (sd_9 _ _ _ _ _ _ _ _ _ _ _ _ _ _ _ _ _ _ _ _ _ _ _ _ _ _ _ _ _ _ _  w (H2) (H3) (HWf h9)) hf
    have H9 := HWt h9
    have H10 := HOf (by rw [h2, h3, h9])
    exact Calls.mono (sd_10 _ _ _ _ _ _ _ _ _ _ _ _ _ _ _ _ _ _ _ _ _ _ _ _ _ _ _ _ _ _ _  w (H2) (H3) (H9) (H10)) hf

end Go.Proofs.YtoeialngbbfoeaaGreatDoor

/- What putEntry, and PutList of entries with it, put behind a Writer's bytes. -/
namespace Go.Proofs.YtoeialngbbfoeaaGreatDoor
open Go.RowKit
set_option maxRecDepth 8000

end Go.Proofs.YtoeialngbbfoeaaGreatDoor

/- What CopyBytes of lagoonref00 answers: the same bytes in a row of its own. -/
namespace Go.Proofs.YtoeialngbbfoeaaGreatDoor
open Go.RowKit
set_option maxRecDepth 8000

theorem Tryz.infoByte : (Tryz.prog.info? 5).map (fun i => (i.zero, i.size, i.bytes)) = some (some (.int .u8 0), 1, 1) := by kernel_rfl

/-- One round of an append of one byte: what is owned, and that old memory stays. -/
theorem app_rel {B : Nat} {w wr w1 : World} {v v' : Value} {xs : List Int} {x : Int} (hBw : B ≤ wr.heap.size) (hown : Owns wr B v xs) (hbel : Below B w wr) {o : Obj}
    (hown' : w1.ownsRow B 5 1 v' (xs.length + 1) (xs.map (Value.int .u8) ++ [.int .u8 x])) (hgrow : (wr.alloc o).grownBy w1 v.ownBlock) :
    Owns w1 B v' (xs ++ [x]) ∧ Below B w w1 ∧ B ≤ w1.heap.size := by
  refine ⟨by simpa [Owns] using hown', ?_, ?_⟩
  · exact ((hbel.alloc hBw o).grown hgrow (by simp; omega) (fun k hk => (hown.lt k hk).1))
  · have := hgrow.size; simp at this; omega

set_option maxHeartbeats 400000 in
theorem copyBytes_any (v : Value) (xs : List Int) (w : World) (h : Sees w v xs) (hreach : xs.length ≤ 70000000000000) :
    Calls Tryz.prog 103 #[v] w fun e w' => ∃ v', e = .returned v' ∧ Owns w' w.heap.size v' xs ∧ Below w.heap.size w w' := by
  obtain ⟨ao, cap, rfl, hlc, hcm, _, h3⟩ := h
  unfold maxLen at hcm
  obtain ⟨i0, hi, hz0, hz1, hz2⟩ := info_parts Tryz.infoByte
  go_enter Tryz.func103, Tryz.ntmps103
  go_wp2
  go_loopw [3, 4] (fun v i wr => ∃ k : Nat, k ≤ xs.length ∧ i = .int .i64 k ∧ Owns wr w.heap.size v (xs.take k) ∧ Below w.heap.size w wr) (fun _ i _ => xs.length - (intOf i).toNat)
  case atStart => exact ⟨0, Nat.zero_le _, rfl, World.ownsRow_nil _ _ _ _, Below.refl _ _⟩
  case round =>
    obtain ⟨k, hk, rfl, hown, hbel⟩ := hrel
    by_cases hlt : k < xs.length
    · rcases h3 with h3 | ⟨b, off, rfl, h3⟩
      · subst h3; simp at hlt
      · have hc := cell_later (h3 k hlt) hbel (Nat.le_refl _)
        have HN : Hid _ := take_next xs k hlt
        have hlen : (xs.take k).length = k := by simp; omega
        have HL : Hid _ := hlen
        clear hlen h3
        generalize xs.getD k 0 = x at *
        generalize xs.take k = ys at *
        have hsz := hbel.size
        go_wp2_with (at_builtin; refine wpList_append_own _ rfl _ _ 28 rfl w.heap.size 5 i0 (.int .u8 0) 1 1 Tryz.underlying28 hi hz0 hz1 hz2 rfl (by decide) _ _ _ rfl (hown.alloc _) ⟨wr.heap.size, 0, none⟩ 1 1 [.int .u8 x] rfl rfl ?c1 ?c2 ?c3 ?c4 ?c5 ?_)
        case c1 =>
          intro j u hj
          match j, hj with
          | 0, hj => simp at hj; subst hj; simp [Addr.add]
        case c2 => intro u hu; simp at hu; subst hu; rfl
        case c3 => have := HL.out; unfold maxLen; omega
        case c4 => have := HL.out; omega
        case c5 => simp; omega
        intro v' w1 hown' hgrow _
        have R := app_rel hsz hown hbel hown' hgrow
        clear hown' hgrow hown hc
        go_wp2
        go_roundw
        case rel => exact ⟨k + 1, by omega, by go_num, by rw [HN.out]; exact R.1, R.2.1⟩
        case measure => simp [intOf]; omega
    · obtain rfl : k = xs.length := by omega
      rw [List.take_length] at hown
      go_wp2
      go_ret
      exact ⟨_, rfl, hown, hbel⟩

theorem made_owns {w : World} {g n : Nat} (h : w.ownsRow g 5 1 (.slice (some ⟨g, 0, none⟩) n n) n (madeCells #[Value.int .u8 0] n).toList) : Owns w g (.slice (some ⟨g, 0, none⟩) (List.replicate n (0 : Int)).length n) (List.replicate n 0) := by
  have e : (madeCells #[Value.int .u8 0] n).toList = (List.replicate n (0 : Int)).map (Value.int .u8) := by
    rw [toList_madeCells_one]; simp
  rw [e] at h
  simpa [Owns] using h

end Go.Proofs.YtoeialngbbfoeaaGreatDoor

/- CopyIds and CopyAcl of lagoonref00: the same elements in a row of their own; a row that is owned, seen. -/
namespace Go.Proofs.YtoeialngbbfoeaaGreatDoor
open Go.RowKit
set_option maxRecDepth 8000

theorem flat_at {z : Nat} {cs : List (List Value)} (hz : ∀ c ∈ cs, c.length = z) (k j : Nat) (hk : k < cs.length) (hj : j < z) : cs.flatten[k * z + j]? = some (cs[k].getD j (.bool false)) := by
  induction cs generalizing k with
  | nil => simp at hk
  | cons c r ih =>
    have hc := hz c (by simp)
    rw [List.flatten_cons]
    cases k with
    | zero =>
      rw [List.getElem?_append_left (by omega), Nat.zero_mul, Nat.zero_add]
      simp [List.getD_eq_getElem?_getD, hc, hj]
    | succ k =>
      have e : (k + 1) * z + j - c.length = k * z + j := by rw [hc, Nat.succ_mul]; omega
      rw [List.getElem?_append_right (by rw [hc, Nat.succ_mul]; omega), e, ih (fun c hc => hz c (by simp [hc])) k (by simpa using hk)]
      simp

/-- A row that is owned is seen. -/
theorem seesR_own {w : World} {base : Nat} {t : TypeId} {z : Nat} {v : Value} {cs : List (List Value)} (h : w.ownsRow base t z v cs.length cs.flatten) (hz : ∀ c ∈ cs, c.length = z) : SeesR w v z cs := by
  rcases h.2 with ⟨rfl, h0⟩ | ⟨g, cap, cur, rfl, h1, h2, h3, h4, h5, h6⟩
  · have : cs = [] := List.eq_nil_of_length_eq_zero h0
    subst this
    exact SeesR.nil w z
  · refine ⟨_, cap, rfl, h3, h4, fun e => by simp at e, .inr ⟨g, 0, rfl, fun i hi j hj => ?_⟩⟩
    have hlt : i * z + j < cs.length * z := by
      have : (i + 1) * z ≤ cs.length * z := Nat.mul_le_mul_right z hi
      rw [Nat.succ_mul] at this
      omega
    rw [Nat.zero_add, cell_of_row _ _ _ _ _ _ h2, ← flat_at hz i j hi hj, ← h6]
    rw [List.getElem?_take, if_pos hlt]
    simp

theorem addrAdd (b off n : Nat) : (⟨b, off, none⟩ : Addr).add n = ⟨b, off + n, none⟩ := by
  by_cases h : n = 0
  · subst h; simp [Addr.add]
  · simp [Addr.add, h]

theorem ownsRow_kept {w w' : World} {S : Nat → Prop} {base : Nat} {t : TypeId} {z n : Nat} {v : Value} {xs : List Value} (h : w.ownsRow base t z v n xs) (hk : Kept w w' S) (hn : ∀ k, v.ownBlock = some k → ¬ S k) : w'.ownsRow base t z v n xs := by
  refine ⟨h.1, ?_⟩
  rcases h.2 with h | ⟨g, cap, cur, rfl, h1, h2, h3⟩
  · exact .inl h
  · exact .inr ⟨g, cap, cur, rfl, h1, hk.heap h2 (hn g rfl), h3⟩

theorem Tryz.infoId : (Tryz.prog.info? 103).map (fun i => (i.zero, i.size, i.bytes)) = some (some (.agg #[.string ⟨#[]⟩, .string ⟨#[]⟩]), 2, 32) := by kernel_rfl
theorem Tryz.infoEn : (Tryz.prog.info? 105).map (fun i => (i.zero, i.size, i.bytes)) = some (some (.agg #[.int .i8 0, .string ⟨#[]⟩, .string ⟨#[]⟩]), 3, 40) := by kernel_rfl

set_option maxHeartbeats 1000000 in
theorem copyIds_any (v : Value) (l : List IdD) (w : World) (h : SeesR w v 2 (l.map IdD.cells)) (hl : l.length ≤ 1000000) :
    Calls Tryz.prog 105 #[v] w fun e w' => ∃ v', e = .returned v' ∧ w'.ownsRow w.heap.size 103 2 v' (l.map IdD.cells).length (l.map IdD.cells).flatten ∧ Below w.heap.size w w' := by
  obtain ⟨ao, cap, rfl, hlc, hcm, _, h3⟩ := h
  unfold maxLen at hcm
  rw [List.length_map] at hlc ⊢
  obtain ⟨i0, hi, hz0, hz1, hz2⟩ := info_parts Tryz.infoId
  go_enter Tryz.func105, Tryz.ntmps105
  go_wp2
  go_loopw [3, 4] (fun v i wr => ∃ k : Nat, k ≤ l.length ∧ i = .int .i64 k ∧ wr.ownsRow w.heap.size 103 2 v k ((l.take k).map IdD.cells).flatten ∧ Below w.heap.size w wr) (fun _ i _ => l.length - (intOf i).toNat)
  case atStart => exact ⟨0, Nat.zero_le _, rfl, World.ownsRow_nil _ _ _ _, Below.refl _ _⟩
  case round =>
    obtain ⟨k, hk, rfl, hown, hbel⟩ := hrel
    by_cases hlt : k < l.length
    · rcases h3 with h3 | ⟨b, off, rfl, h3⟩
      · have : l.length = 0 := by simpa using congrArg List.length h3
        omega
      · have c0 := cell_later (h3 k (by simpa using hlt) 0 (by omega)) hbel (Nat.le_refl _)
        have c1 := cell_later (h3 k (by simpa using hlt) 1 (by omega)) hbel (Nat.le_refl _)
        simp [IdD.cells] at c0 c1
        have HN : Hid (((l.take (k + 1)).map IdD.cells).flatten = ((l.take k).map IdD.cells).flatten ++ l[k].cells) := by
          show _ = _
          rw [List.take_succ_eq_append_getElem hlt, List.map_append, List.flatten_append]
          simp
        have HO : Hid _ := And.intro hown hbel
        have hsz := hbel.size
        clear h3 hown hbel
        generalize l[k] = x at *
        generalize ((l.take k).map IdD.cells).flatten = ys at *
        go_wp2_with (at_builtin; refine wpList_append_own_at _ rfl _ _ 30 rfl w.heap.size 103 i0 _ 2 32 Tryz.underlying30 hi hz0 hz1 hz2 rfl (by decide) _ _ _ rfl (ownsRow_kept HO.out.1 ((Kept.refl wr (fun _ => False)).alloc _) (fun _ _ h => h)) ⟨wr.heap.size, 0, none⟩ 1 1 x.cells rfl rfl ?c1 ?c2 ?c3 ?c4 ?c5 ?_)
        case c1 =>
          intro j u hj
          rw [addrAdd, Nat.zero_add, cell_of_row _ _ _ _ _ _ (heap_alloc_new _ _)]
          rw [← hj]
          simp [IdD.cells]
        case c2 =>
          intro u hu
          simp only [IdD.cells, List.mem_cons, List.not_mem_nil, or_false] at hu
          rcases hu with rfl | rfl <;> rfl
        case c3 => unfold maxLen; omega
        case c4 => omega
        case c5 => simp; omega
        intro v' w1 hown' hgrow _ _
        have HR : Hid (w1.ownsRow w.heap.size 103 2 v' (k + 1) (ys ++ x.cells) ∧ Below w.heap.size w w1) :=
          ⟨hown', (HO.out.2.alloc HO.out.2.size _).grown hgrow (by simp; omega) (fun k hk => (HO.out.1.lt k hk).1)⟩
        clear hown' hgrow HO c0 c1
        go_wp2
        go_roundw
        case rel => exact ⟨k + 1, by omega, by go_num, by rw [HN.out]; exact HR.out.1, HR.out.2⟩
        case measure => simp [intOf]; omega
    · obtain rfl : k = l.length := by omega
      rw [List.take_length] at hown
      go_wp2
      go_ret
      exact ⟨_, rfl, hown, hbel⟩
set_option maxHeartbeats 1000000 in
theorem copyAcl_any (v : Value) (l : List EnD) (w : World) (h : SeesR w v 3 (l.map EnD.cells)) (hl : l.length ≤ 1000000) :
    Calls Tryz.prog 104 #[v] w fun e w' => ∃ v', e = .returned v' ∧ w'.ownsRow w.heap.size 105 3 v' (l.map EnD.cells).length (l.map EnD.cells).flatten ∧ Below w.heap.size w w' := by
  obtain ⟨ao, cap, rfl, hlc, hcm, _, h3⟩ := h
  unfold maxLen at hcm
  rw [List.length_map] at hlc ⊢
  obtain ⟨i0, hi, hz0, hz1, hz2⟩ := info_parts Tryz.infoEn
  go_enter Tryz.func104, Tryz.ntmps104
  go_wp2
  go_loopw [3, 4] (fun v i wr => ∃ k : Nat, k ≤ l.length ∧ i = .int .i64 k ∧ wr.ownsRow w.heap.size 105 3 v k ((l.take k).map EnD.cells).flatten ∧ Below w.heap.size w wr) (fun _ i _ => l.length - (intOf i).toNat)
  case atStart => exact ⟨0, Nat.zero_le _, rfl, World.ownsRow_nil _ _ _ _, Below.refl _ _⟩
  case round =>
    obtain ⟨k, hk, rfl, hown, hbel⟩ := hrel
    by_cases hlt : k < l.length
    · rcases h3 with h3 | ⟨b, off, rfl, h3⟩
      · have : l.length = 0 := by simpa using congrArg List.length h3
        omega
      · have c0 := cell_later (h3 k (by simpa using hlt) 0 (by omega)) hbel (Nat.le_refl _)
        have c1 := cell_later (h3 k (by simpa using hlt) 1 (by omega)) hbel (Nat.le_refl _)
        have c2 := cell_later (h3 k (by simpa using hlt) 2 (by omega)) hbel (Nat.le_refl _)
        simp [EnD.cells] at c0 c1 c2
        have HN : Hid (((l.take (k + 1)).map EnD.cells).flatten = ((l.take k).map EnD.cells).flatten ++ l[k].cells) := by
          show _ = _
          rw [List.take_succ_eq_append_getElem hlt, List.map_append, List.flatten_append]
          simp
        have HO : Hid _ := And.intro hown hbel
        have hsz := hbel.size
        clear h3 hown hbel
        generalize l[k] = x at *
        generalize ((l.take k).map EnD.cells).flatten = ys at *
        go_wp2_with (at_builtin; refine wpList_append_own_at _ rfl _ _ 29 rfl w.heap.size 105 i0 _ 3 40 Tryz.underlying29 hi hz0 hz1 hz2 rfl (by decide) _ _ _ rfl (ownsRow_kept HO.out.1 ((Kept.refl wr (fun _ => False)).alloc _) (fun _ _ h => h)) ⟨wr.heap.size, 0, none⟩ 1 1 x.cells rfl rfl ?c1 ?c2 ?c3 ?c4 ?c5 ?_)
        case c1 =>
          intro j u hj
          rw [addrAdd, Nat.zero_add, cell_of_row _ _ _ _ _ _ (heap_alloc_new _ _)]
          rw [← hj]
          simp [EnD.cells]
        case c2 =>
          intro u hu
          simp only [EnD.cells, List.mem_cons, List.not_mem_nil, or_false] at hu
          rcases hu with rfl | rfl | rfl <;> rfl
        case c3 => unfold maxLen; omega
        case c4 => omega
        case c5 => simp; omega
        intro v' w1 hown' hgrow _ _
        have HR : Hid (w1.ownsRow w.heap.size 105 3 v' (k + 1) (ys ++ x.cells) ∧ Below w.heap.size w w1) :=
          ⟨hown', (HO.out.2.alloc HO.out.2.size _).grown hgrow (by simp; omega) (fun k hk => (HO.out.1.lt k hk).1)⟩
        clear hown' hgrow HO c0 c1 c2
        go_wp2
        go_roundw
        case rel => exact ⟨k + 1, by omega, by go_num, by rw [HN.out]; exact HR.out.1, HR.out.2⟩
        case measure => simp [intOf]; omega
    · obtain rfl : k = l.length := by omega
      rw [List.take_length] at hown
      go_wp2
      go_ret
      exact ⟨_, rfl, hown, hbel⟩

end Go.Proofs.YtoeialngbbfoeaaGreatDoor

/- A request that lies in blocks of a given set; what stands while a request is copied; an append as a step of a drawn region. No Go function is walked here. -/
namespace Go.Proofs.YtoeialngbbfoeaaGreatDoor
open Go.RowKit
set_option maxRecDepth 8000

theorem SeesR.kept {w w' : World} {S : Nat → Prop} {v : Value} {z : Nat} {cs : List (List Value)} (h : SeesR w v z cs) (hk : Kept w w' S) (hn : ∀ k, v.ownBlock = some k → ¬ S k) : SeesR w' v z cs := by
  obtain ⟨ao, cap, rfl, h1, h2, h0, h3⟩ := h
  refine ⟨ao, cap, rfl, h1, h2, h0, ?_⟩
  rcases h3 with h3 | ⟨b, off, rfl, h3⟩
  · exact .inl h3
  · exact .inr ⟨b, off, rfl, fun i hi j hj => hk.cell (h3 i hi j hj) (hn b rfl)⟩

/-- The cells cs are those of the request r, and all its lists lie in blocks of F. -/
inductive RqIn (w : World) (F : Nat → Prop) : List Value → Rq → Prop where
  | mk (f : RqF) (n : Nat) (ops : Fin n → Rq) (dv av wv ov : Value) (oc : Fin n → List Value)
      (hd : Sees w dv f.data) (ha : SeesR w av 3 (f.acl.map EnD.cells)) (hw : SeesR w wv 2 (f.who.map IdD.cells)) (ho : SeesR w ov 11 (List.ofFn oc))
      (fd : ∀ k, dv.ownBlock = some k → F k) (fa : ∀ k, av.ownBlock = some k → F k) (fw : ∀ k, wv.ownBlock = some k → F k) (fo : ∀ k, ov.ownBlock = some k → F k)
      (hs : ∀ i : Fin n, RqIn w F (oc i) (ops i)) : RqIn w F (rqCells f dv av wv ov) (.mk f n ops)

theorem RqIn.sees {w : World} {F : Nat → Prop} {cs : List Value} {r : Rq} (h : RqIn w F cs r) : SeesRq w cs r := by
  induction h with
  | mk f n ops dv av wv ov oc hd ha hw ho _ _ _ _ _ ih => exact .mk f n ops dv av wv ov oc hd ha hw ho ih

theorem RqIn.kept {w w' : World} {S F F' : Nat → Prop} (hk : Kept w w' S) (hF : ∀ k, F k → ¬ S k ∧ F' k) {cs : List Value} {r : Rq} (h : RqIn w F cs r) : RqIn w' F' cs r := by
  induction h with
  | mk f n ops dv av wv ov oc hd ha hw ho fd fa fw fo _ ih =>
    exact .mk f n ops dv av wv ov oc (hd.kept hk (fun k h => (hF k (fd k h)).1)) (ha.kept hk (fun k h => (hF k (fa k h)).1)) (hw.kept hk (fun k h => (hF k (fw k h)).1)) (ho.kept hk (fun k h => (hF k (fo k h)).1))
      (fun k h => (hF k (fd k h)).2) (fun k h => (hF k (fa k h)).2) (fun k h => (hF k (fw k h)).2) (fun k h => (hF k (fo k h)).2) ih

abbrev rqZ : Array Value := #[.int .i8 0, .string ⟨#[]⟩, .slice none 0 0, .slice none 0 0, .int .i32 0, .bool false, .bool false, .int .i64 0, .int .i32 0, .slice none 0 0, .slice none 0 0]

/-- What stands while a request is copied: the one that came in at N, the result's variable, the copy. -/
structure CS (w W : World) (cs ds : Array Value) : Prop where
  r : W.heap[w.heap.size]? = some (.cells cs 33 (0, 0))
  o : W.heap[w.heap.size + 1]? = some (.cells rqZ 33 (0, 0))
  c : W.heap[w.heap.size + 2]? = some (.cells ds 33 (0, 0))
  bel : Below w.heap.size w W

section
variable {w W W' : World} {cs ds : Array Value}
theorem CS.kept {S : Nat → Prop} (h : CS w W cs ds) (hk : Kept W W' S) (hS : ∀ k, S k → w.heap.size + 3 ≤ k) : CS w W' cs ds := by
  refine ⟨hk.heap h.r (fun e => by have := hS _ e; omega), hk.heap h.o (fun e => by have := hS _ e; omega), hk.heap h.c (fun e => by have := hS _ e; omega), h.bel.trans (hk.below h.bel.size (fun k e => by have := hS _ e; omega))⟩
theorem CS.lt (h : CS w W cs ds) : w.heap.size + 3 ≤ W.heap.size := lt_of_block h.c
theorem CS.later (h : CS w W cs ds) (hb : Below W.heap.size W W') : CS w W' cs ds := h.kept (Below.kept hb) (fun k hk => by have := h.lt; omega)
theorem CS.set (h : CS w W cs ds) (j : Nat) (u : Value) : CS w (W.setCell ⟨w.heap.size + 2, j, none⟩ u) cs (ds.setIfInBounds j u) := by
  have hk : Kept W (W.setCell ⟨w.heap.size + 2, j, none⟩ u) (fun k => k = w.heap.size + 2) := (Kept.refl W (fun k => k = w.heap.size + 2)).setCell _ _ (fun _ => rfl)
  refine ⟨hk.heap h.r (by omega), hk.heap h.o (by omega), heap_setR _ h.c, h.bel.trans (hk.below h.bel.size (fun k e => by omega))⟩
theorem CS.rc (h : CS w W cs ds) (j : Nat) : W.cell? ⟨w.heap.size, j, none⟩ = cs[j]? := cell_of_row _ _ _ _ _ _ h.r
theorem CS.cc (h : CS w W cs ds) (j : Nat) : W.cell? ⟨w.heap.size + 2, j, none⟩ = ds[j]? := cell_of_row _ _ _ _ _ _ h.c
theorem CS.cf (h : CS w W cs ds) (j : Nat) : W.frozen? ⟨w.heap.size + 2, j, none⟩ = false := frozen_of_row _ _ _ _ _ h.c
end

theorem Tryz.infoRq : (Tryz.prog.info? 33).map (fun i => (i.zero, i.size, i.bytes)) = some (some (.agg rqZ), 11, 144) := by kernel_rfl

theorem step_append_at {P : Program} {ops : Array Oper} {o : Oper} {a : Act} {w : World} {K : Act → World → Prop} {Q : Exit → Act → World → Prop} {E : Prop}
    (hg : o.guard = none) (s x : Operand) (t : TypeId) (hop : o.op = Op.call { callee := Callee.builtin Builtin.append, args := #[s, x], argTypes := #[t, t] })
    (base : Nat) (e : TypeId) (i : TypeInfo) (z : Value) (size bytes : Nat) (ht : P.underlying t = some (.slice e)) (hi : P.info? e = some i) (hz : i.zero = some z)
    (hsize : i.size = size) (hby : i.bytes = bytes) (hzs : z.cells.size = size) (hsz : 0 < size)
    (v : Value) (n : Nat) (xs : List Value) (hs : a.eval s = v) (hown : w.ownsRow base e size v n xs)
    (ad : Addr) (m c : Nat) (news : List Value) (hx : a.eval x = .slice (some ad) m c) (hl : news.length = m * size) (hnews : ∀ j u, news[j]? = some u → w.cell? (ad.add j) = some u) (h1 : ∀ u ∈ news, u.oneCell' = true)
    (h63 : n + m ≤ maxLen) (hbytes : (n + m) * bytes ≤ 140737488355328) (hbase : base ≤ w.heap.size)
    (h : ∀ v' w', w'.ownsRow base e size v' (n + m) (xs ++ news) → w.grownBy w' v.ownBlock → (v'.ownBlock = v.ownBlock ∨ v'.ownBlock = some w.heap.size) → K (a.put o.dst v') w') :
    if Region.wanted o (yielded ops a.tmps) = true then Oper.wp P o a w K Q else E := by
  have hw : Region.wanted o (yielded ops a.tmps) = true := by simp [Region.wanted, hg]
  rw [if_pos hw]
  obtain ⟨v', w', hr, h2, h3, _, h5⟩ := run_append_own_at (P := P) w base t o.type e i z size bytes ht hi hz hsize hby hzs hsz v n xs hown ad m c news hl hnews h1 h63 hbytes hbase
  unfold Oper.wp execOp
  simp only [hop, resolve, invoke, builtin, Sem.run_bind, Sem.run_pure, Result.andThen_ok, List.map_toArray, List.map_cons, List.map_nil, hs, hx, hr]
  exact h v' w' h2 h3 h5
end Go.Proofs.YtoeialngbbfoeaaGreatDoor

/- A request whose lists that are not empty lie in blocks of a given set; no Go function is walked here. -/
namespace Go.Proofs.YtoeialngbbfoeaaGreatDoor
open Go.RowKit
set_option maxRecDepth 8000

end Go.Proofs.YtoeialngbbfoeaaGreatDoor

/- What isBounded of package txn answers, for every request: by what isList answers of its lists. -/
namespace Go.Proofs.YtoeialngbbfoeaaGreatDoor
open Go.RowKit
set_option maxRecDepth 8000

section
variable (kind : Int) (path : ByteArray) (da aa wa oa : Option Addr) (dl dc al ac wl wc n occ : Nat) (ver : Int) (eph seq : Bool) (ses tmo : Int) (qa qw : Bool) (w : World)

end
end Go.Proofs.YtoeialngbbfoeaaGreatDoor

/- What isBounded of package txn answers where a later bound is passed. -/
namespace Go.Proofs.YtoeialngbbfoeaaGreatDoor
open Go.RowKit
set_option maxRecDepth 8000

section
variable (kind : Int) (path : ByteArray) (da aa wa oa : Option Addr) (dl dc al ac wl wc n occ : Nat) (ver : Int) (eph seq : Bool) (ses tmo : Int) (qa qw : Bool) (w : World)

end
end Go.Proofs.YtoeialngbbfoeaaGreatDoor

/- What isBounded of package txn answers where a later bound is passed. -/
namespace Go.Proofs.YtoeialngbbfoeaaGreatDoor
open Go.RowKit
set_option maxRecDepth 8000

section
variable (kind : Int) (path : ByteArray) (da aa wa oa : Option Addr) (dl dc al ac wl wc n occ : Nat) (ver : Int) (eph seq : Bool) (ses tmo : Int) (qa qw : Bool) (w : World)

end
end Go.Proofs.YtoeialngbbfoeaaGreatDoor

/- What isBounded of package txn answers, for every request. -/
namespace Go.Proofs.YtoeialngbbfoeaaGreatDoor
open Go.RowKit
set_option maxRecDepth 8000

end Go.Proofs.YtoeialngbbfoeaaGreatDoor

/- What put of package txn lays of a request without Ops, kind by kind. -/
namespace Go.Proofs.YtoeialngbbfoeaaGreatDoor
open Go.RowKit
set_option maxRecDepth 8000

end Go.Proofs.YtoeialngbbfoeaaGreatDoor

/- What put of package txn lays of a transaction's request without Ops, kind by kind. -/
namespace Go.Proofs.YtoeialngbbfoeaaGreatDoor
open Go.RowKit
set_option maxRecDepth 8000

end Go.Proofs.YtoeialngbbfoeaaGreatDoor

/- What mayBe of package txn answers, for every request at every place. -/
namespace Go.Proofs.YtoeialngbbfoeaaGreatDoor
open Go.RowKit
set_option maxRecDepth 8000

end Go.Proofs.YtoeialngbbfoeaaGreatDoor

/- What put of package txn lays of a Multi's requests, and PutList of them. -/
namespace Go.Proofs.YtoeialngbbfoeaaGreatDoor
open Go.RowKit
set_option maxRecDepth 8000

end Go.Proofs.YtoeialngbbfoeaaGreatDoor

/- What put of package txn lays of a Multi. -/
namespace Go.Proofs.YtoeialngbbfoeaaGreatDoor
open Go.RowKit
set_option maxRecDepth 8000

end Go.Proofs.YtoeialngbbfoeaaGreatDoor

/- What txn.Check answers, for every transaction. -/
namespace Go.Proofs.YtoeialngbbfoeaaGreatDoor
open Go.RowKit
set_option maxRecDepth 8000

section
variable (e n sv bt nm k : Int) (s : ByteArray) (da aa wa oa : Option Addr) (dl dc al ac wl wc ol oc : Nat) (ver : Int) (eph seq : Bool) (ses tmo : Int) (w : World) (h0 : 0 ≤ e) (h2 : 0 ≤ n)
include h0 h2

end

end Go.Proofs.YtoeialngbbfoeaaGreatDoor

/- What txn.Write answers, for every transaction in blocks below it. -/
namespace Go.Proofs.YtoeialngbbfoeaaGreatDoor
open Go.RowKit
set_option maxRecDepth 8000

end Go.Proofs.YtoeialngbbfoeaaGreatDoor

/- What txn.Write answers, for every transaction that lies in memory. -/
namespace Go.Proofs.YtoeialngbbfoeaaGreatDoor
open Go.RowKit
set_option maxRecDepth 8000

end Go.Proofs.YtoeialngbbfoeaaGreatDoor

/- parts, Parts and Large of lagoonref00: how many parts a request has, the count ended early. -/
namespace Go.Proofs.YtoeialngbbfoeaaGreatDoor
open Go.RowKit
set_option maxRecDepth 8000

theorem Rq.good_inv {f : RqF} {n : Nat} {ops : Fin n → Rq} (h : (Rq.mk f n ops).good) : f.good ∧ n ≤ 140737488355328 ∧ ∀ i : Fin n, (ops i).good := h

set_option maxHeartbeats 2000000 in
theorem parts_any (r : Rq) : ∀ (cs : List Value) (n0 : Nat) (w : World), SeesRq w cs r → r.good → n0 ≤ 20000 →
    Calls Tryz.prog 65 #[.agg cs.toArray, .int .i64 n0] w fun e w' => ∃ m : Nat, e = .returned (.int .i64 m) ∧ m ≤ 500000000000000 ∧ n0 < m ∧ (m ≤ 20000 → m = n0 + r.parts) ∧ Below w.heap.size w w' := by
  induction r with
  | mk f n ops ih =>
    intro cs n0 w hcs hgd hn0
    obtain ⟨dv, av, wv, ov, oc, rfl, hd, ha, hw, ho, hs⟩ := rq_inv hcs
    obtain ⟨gf, gn, gops⟩ := Rq.good_inv hgd
    have g1 := gf.dl
    have g2 := gf.al
    have g3 := gf.wl
    have HP : Hid ((Rq.mk f n ops).parts = f.parts + partsTo ops n) := Rq.parts_eq f n ops
    have HF : Hid (f.parts = 1 + f.data.length + f.acl.length + f.who.length) := rfl
    obtain ⟨kind, path, data, acl, ver, eph, seq, ses, tmo, who⟩ := f
    simp only at hd ha hw g1 g2 g3
    obtain ⟨da, dc, rfl, _⟩ := hd
    obtain ⟨aa, ac, e1⟩ := seesR_shape ha
    obtain ⟨wa, wc', e2⟩ := seesR_shape hw
    obtain ⟨oa, occ, e3⟩ := seesR_shape ho
    rw [List.length_map] at e1 e2
    rw [List.length_ofFn] at e3
    subst e1 e2 e3
    have HO : Hid (SeesR w (.slice oa n occ) 11 (List.ofFn oc)) := ho
    have hcap : n ≤ occ ∧ occ ≤ 9223372036854775807 := by
      obtain ⟨a1, c1, q1, q2, q3, _⟩ := ho
      simp at q1 q2
      unfold maxLen at q3
      omega
    obtain ⟨hcx, hcx'⟩ := hcap
    have HI : Hid _ := ih
    have HS : Hid (∀ W : World, Below w.heap.size w W → ∀ i, SeesRq W (oc i) (ops i)) := fun W hW i => (hs i).later hW (Nat.le_refl _)
    have HG : Hid (∀ i : Fin n, (ops i).good) := gops
    clear ha hw hcs ho ih hs hgd gf gops
    simp only [rqCells]
    generalize edl : data.length = dl at *
    generalize eal : acl.length = al at *
    generalize ewl : who.length = wl at *
    generalize eFP : (⟨kind, path, data, acl, ver, eph, seq, ses, tmo, who⟩ : RqF).parts = fp at *
    have hfp : fp = 1 + dl + al + wl := HF.out
    obtain ⟨V, eV⟩ : ∃ V, V = w.alloc (.cells #[.int .i8 kind, .string path, .slice da dl dc, .slice aa al ac, .int .i32 ver, .bool eph, .bool seq, .int .i64 ses, .int .i32 tmo, .slice wa wl wc', .slice oa n occ] 33) := ⟨_, rfl⟩
    have HV : Hid (Below w.heap.size w V) := by subst eV; exact one_alloc _ _
    have HC : Hid (∀ W, Below V.heap.size V W → W.cell? ⟨w.heap.size, 10, none⟩ = some (.slice oa n occ)) := by
      intro W hW
      have hx : V.heap[w.heap.size]? = some (.cells #[.int .i8 kind, .string path, .slice da dl dc, .slice aa al ac, .int .i32 ver, .bool eph, .bool seq, .int .i64 ses, .int .i32 tmo, .slice wa wl wc', .slice oa n occ] 33 (0, 0)) := by subst eV; exact heap_alloc_new _ _
      have hx' := (Below.kept hW).heap hx (by have := lt_of_block hx; omega)
      rw [cell_of_row _ _ _ _ _ _ hx']; rfl
    have HE : Hid _ := eV
    clear eV HF eFP edl eal ewl
    go_enter Tryz.func65, Tryz.ntmps65
    go_wp2_with fail
    go_loopw [1, 5] (fun nn i wr => ∃ k m : Nat, k ≤ n ∧ i = .int .i64 k ∧ nn = .int .i64 m ∧ m ≤ 500000000000000 ∧ n0 < m ∧ (m ≤ 20000 → m = n0 + fp + partsTo ops k) ∧ Below V.heap.size V wr) (fun _ i _ => n - (intOf i).toNat)
    case atStart => exact ⟨0, n0 + fp, Nat.zero_le _, rfl, by subst hfp; congr 1; push_cast; omega, by omega, by omega, fun _ => by rw [partsTo_zero]; omega, by rw [← HE.out]; exact Below.refl _ _⟩
    case round =>
      obtain ⟨k, m, hk, rfl, rfl, hm1, hm2, hm3, hbel⟩ := hrel
      have HM : Hid (m ≤ 20000 → m = n0 + fp + partsTo ops k) := hm3
      have HB : Hid (Below V.heap.size V wr) := hbel
      clear hm3 hbel HE
      have x10 := HC.out _ HB.out
      by_cases hlt : k < n
      · by_cases hm : m ≤ 20000
        · obtain ⟨a1, c1, q1, _, _, _, h3⟩ := HO.out
          simp at q1
          obtain ⟨rfl, rfl⟩ := q1
          rcases h3 with h3 | ⟨b, off, rfl, h3⟩
          · have : n = 0 := by simpa using congrArg List.length h3
            omega
          have hwr : Below w.heap.size w wr := HV.out.trans (HB.out.mono HV.out.size)
          have HX := HI.out ⟨k, hlt⟩ (oc ⟨k, hlt⟩) m wr (HS.out _ hwr ⟨k, hlt⟩) (HG.out ⟨k, hlt⟩) hm
          obtain ⟨q0, q1, d0, d1, d2, a0, a1, a2, q4, q5, q6, q7, q8, e0, e1, e2, o0, o1, o2, hcs⟩ := rq_forms (HS.out _ hwr ⟨k, hlt⟩)
          have hat : ∀ j, j < 11 → wr.cell? ⟨b, off + k * 11 + j, none⟩ = some ((oc ⟨k, hlt⟩).getD j (.bool false)) := fun j hj => by
            have := cell_later (h3 k (by simpa using hlt) j hj) hwr (Nat.le_refl _)
            simpa using this
          rw [hcs] at hat HX
          have g0 : wr.cell? ⟨b, off + k * 11, none⟩ = some (.int .i8 q0) := hat 0 (by omega)
          have g1 : wr.cell? ⟨b, off + k * 11 + 1, none⟩ = some (.string q1) := hat 1 (by omega)
          have g2 : wr.cell? ⟨b, off + k * 11 + 2, none⟩ = some (.slice d0 d1 d2) := hat 2 (by omega)
          have g3 : wr.cell? ⟨b, off + k * 11 + 3, none⟩ = some (.slice a0 a1 a2) := hat 3 (by omega)
          have g4 : wr.cell? ⟨b, off + k * 11 + 4, none⟩ = some (.int .i32 q4) := hat 4 (by omega)
          have g5 : wr.cell? ⟨b, off + k * 11 + 5, none⟩ = some (.bool q5) := hat 5 (by omega)
          have g6 : wr.cell? ⟨b, off + k * 11 + 6, none⟩ = some (.bool q6) := hat 6 (by omega)
          have g7 : wr.cell? ⟨b, off + k * 11 + 7, none⟩ = some (.int .i64 q7) := hat 7 (by omega)
          have g8 : wr.cell? ⟨b, off + k * 11 + 8, none⟩ = some (.int .i32 q8) := hat 8 (by omega)
          have g9 : wr.cell? ⟨b, off + k * 11 + 9, none⟩ = some (.slice e0 e1 e2) := hat 9 (by omega)
          have g10 : wr.cell? ⟨b, off + k * 11 + 10, none⟩ = some (.slice o0 o1 o2) := hat 10 (by omega)
          have HN : Hid (partsTo ops (k + 1) = partsTo ops k + (ops ⟨k, hlt⟩).parts) := partsTo_next ops k hlt
          clear h3 hat hcs hwr
          go_wp2_with fail
          refine HX.mono ?_
          rintro e w5 ⟨m', rfl, hm1', hm2', hm3', hb⟩
          have HB5 : Hid (Below V.heap.size V w5) := HB.out.trans (hb.mono HB.out.size)
          have HM5 : Hid (m' ≤ 20000 → m' = n0 + fp + partsTo ops (k + 1)) := fun h => by
            have e1 := hm3' h
            have e2 := HM.out hm
            rw [HN.out]
            omega
          clear HX hb hm3' HB HM HN x10 g0 g1 g2 g3 g4 g5 g6 g7 g8 g9 g10
          go_wp2_with fail
          go_roundw
          case rel => exact ⟨k + 1, m', by omega, by go_num, rfl, hm1', by omega, HM5.out, HB5.out⟩
          case measure => simp [intOf]; omega
        · have hm' : decide ((m : Int) ≤ 20000) = false := by simp; omega
          go_wp2_with fail
          go_ret
          exact ⟨m, rfl, hm1, hm2, fun h => absurd h hm, HV.out.trans (HB.out.mono HV.out.size)⟩
      · obtain rfl : k = n := by omega
        go_wp2_with fail
        go_ret
        exact ⟨m, rfl, hm1, hm2, fun h => by rw [HP.out]; have := HM.out h; omega, HV.out.trans (HB.out.mono HV.out.size)⟩
end Go.Proofs.YtoeialngbbfoeaaGreatDoor

/- Parts, Large and LargeTxns of lagoonref00. -/
namespace Go.Proofs.YtoeialngbbfoeaaGreatDoor
open Go.RowKit
set_option maxRecDepth 8000

set_option maxHeartbeats 400000 in
theorem bigParts_any (r : Rq) (cs : List Value) (w : World) (h : SeesRq w cs r) (hg : r.good) :
    Calls Tryz.prog 17 #[.agg cs.toArray] w fun e w' => ∃ m : Nat, e = .returned (.int .i64 m) ∧ m ≤ 500000000000000 ∧ 0 < m ∧ (m ≤ 20000 → m = r.parts) ∧ Below w.heap.size w w' := by
  have HX : Hid (∀ W : World, Below w.heap.size w W → Calls Tryz.prog 65 #[.agg cs.toArray, .int .i64 ((0 : Nat) : Int)] W fun e w' => ∃ m : Nat, e = .returned (.int .i64 m) ∧ m ≤ 500000000000000 ∧ 0 < m ∧ (m ≤ 20000 → m = 0 + r.parts) ∧ Below W.heap.size W w') := fun W hW =>
    parts_any r cs 0 W (h.later hW (Nat.le_refl _)) hg (by omega)
  obtain ⟨q0, q1, d0, d1, d2, a0, a1, a2, q4, q5, q6, q7, q8, e0, e1, e2, o0, o1, o2, rfl⟩ := rq_forms h
  have hB := one_alloc w
  clear h hg
  go_enter Tryz.func17, Tryz.ntmps17
  go_wp2_with fail
  refine (HX.out _ (hB _)).mono ?_
  rintro e w1 ⟨m, rfl, h1, h2, h3, b⟩
  have HF : Hid ((m ≤ 20000 → m = r.parts) ∧ Below w.heap.size w w1) := ⟨fun h => by have := h3 h; omega, (hB _).trans (b.mono (by simp))⟩
  clear h3 b hB
  go_wp2
  go_ret
  exact ⟨m, rfl, h1, h2, HF.out.1, HF.out.2⟩

set_option maxHeartbeats 400000 in
theorem large_any (r : Rq) (cs : List Value) (w : World) (h : SeesRq w cs r) (hg : r.good) :
    Calls Tryz.prog 5 #[.agg cs.toArray] w fun e w' => ∃ b : Bool, e = .returned (.bool b) ∧ (b = false → r.parts ≤ 20000) ∧ Below w.heap.size w w' := by
  have HX : Hid (∀ W : World, Below w.heap.size w W → Calls Tryz.prog 17 #[.agg cs.toArray] W fun e w' => ∃ m : Nat, e = .returned (.int .i64 m) ∧ m ≤ 500000000000000 ∧ 0 < m ∧ (m ≤ 20000 → m = r.parts) ∧ Below W.heap.size W w') := fun W hW =>
    bigParts_any r cs W (h.later hW (Nat.le_refl _)) hg
  obtain ⟨q0, q1, d0, d1, d2, a0, a1, a2, q4, q5, q6, q7, q8, e0, e1, e2, o0, o1, o2, rfl⟩ := rq_forms h
  have hB := one_alloc w
  clear h hg
  go_enter Tryz.func5, Tryz.ntmps5
  go_wp2_with fail
  refine (HX.out _ (hB _)).mono ?_
  rintro e w1 ⟨m, rfl, h1, h2, h3, b⟩
  have HF : Hid ((m ≤ 20000 → m = r.parts) ∧ Below w.heap.size w w1) := ⟨h3, (hB _).trans (b.mono (by simp))⟩
  clear h3 b hB
  go_wp2
  go_ret
  refine ⟨_, rfl, fun h => ?_, HF.out.2⟩
  simp at h
  have := HF.out.1 (by omega)
  omega

end Go.Proofs.YtoeialngbbfoeaaGreatDoor

/- What txn.Rises answers: do the zxids of a list rise. -/
namespace Go.Proofs.YtoeialngbbfoeaaGreatDoor
open Go.RowKit
set_option maxRecDepth 8000

end Go.Proofs.YtoeialngbbfoeaaGreatDoor

/- The bytes of a transaction that may be: at most 4096, each a byte. No Go function is walked here. -/
namespace Go.Proofs.YtoeialngbbfoeaaGreatDoor
open Go.RowKit
set_option maxRecDepth 8000

end Go.Proofs.YtoeialngbbfoeaaGreatDoor

/- What choose.Under, choose.Size and choose.sending answer, for all that came in. -/
namespace Go.Proofs.YtoeialngbbfoeaaGreatDoor
open Go.RowKit
set_option maxRecDepth 8000

end Go.Proofs.YtoeialngbbfoeaaGreatDoor

/- A list that rises does so from each place; a part of a list, as Go cuts it. No Go function is walked here. -/
namespace Go.Proofs.YtoeialngbbfoeaaGreatDoor
open Go.RowKit
set_option maxRecDepth 8000

end Go.Proofs.YtoeialngbbfoeaaGreatDoor

/- What choose.upTo, choose.behind and choose.Way answer, for all that came in. -/
namespace Go.Proofs.YtoeialngbbfoeaaGreatDoor
open Go.RowKit
set_option maxRecDepth 8000

end Go.Proofs.YtoeialngbbfoeaaGreatDoor

/- What choose.behind answers, and what choose.Way answers, as data. -/
namespace Go.Proofs.YtoeialngbbfoeaaGreatDoor
open Go.RowKit
set_option maxRecDepth 8000

theorem cellAt {W : World} {b i : Nat} {cs : Array Value} {t : TypeId} {v : Value} (h : W.heap[b]? = some (.cells cs t (0, 0))) (hv : cs[i]? = some v) : W.cell? ⟨b, i, none⟩ = some v := by rw [cell_of_row _ _ _ _ _ _ h]; exact hv

end Go.Proofs.YtoeialngbbfoeaaGreatDoor
