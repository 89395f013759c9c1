/- The document's disk: Rename. -/
import Derived.Test.YtdhnbgeijfgfaaaGreatDoorRdMJ
namespace Go.Proofs.YtdhnbgeijfgfaaaGreatDoor
open Go.RowKit Go.Shelf
set_option maxRecDepth 8000

def RD.errR (R : RD) (a b : ByteArray) : Int := if R.power then (if isNm a && isNm b then (if hasF R.files a then 0 else 20) else 22) else 23

theorem nd_one {w : World} {p : Nat} {fv : Value} {vs : List Value} {R : RD} (h : IsRd w p fv vs R) (u' : Value) (hu : ∀ k, u'.ownBlock = some k → w.heap.size ≤ k) : (rfoot p fv (u' :: vs)).Nodup := by
  have h0 := h.nd
  cases e : u'.ownBlock with
  | none =>
    unfold rfoot at h0 ⊢
    rw [List.flatMap_cons, e]
    simpa using h0
  | some k =>
    have hk := hu k e
    have hk2 : k ∉ rfoot p fv vs := fun hm => by have := h.lt hm; omega
    have hp : (rfoot p fv (u' :: vs)).Perm (k :: rfoot p fv vs) := by
      unfold rfoot
      rw [List.flatMap_cons, e]
      exact List.Perm.trans (List.Perm.cons p List.perm_middle) (List.Perm.swap k p _)
    exact hp.nodup_iff.2 (List.nodup_cons.2 ⟨hk2, h0⟩)

/-- A list of files that has some of a disk's, and one more at most, is set. -/
theorem IsRd.setZ {w w4 w5 : World} {p : Nat} {fv v5 : Value} {vs : List Value} {R : RD} (h : IsRd w p fv vs R) (hb : Below w.heap.size w w4) (u' : Value) (hu : ∀ k, u'.ownBlock = some k → w.heap.size ≤ k ∧ k < w4.heap.size) {z : List (FiD × Value)} (ho : OutZ w4 w5 v5 z) (hown : ∀ a ∈ z, Owns w4 0 a.2 a.1.bytes) {l : List Value} (hp : (z.map Prod.snd).Perm l) (hs : l.Sublist (u' :: vs)) :
    RdTo w p fv vs (w5.setCell ⟨p, 1, none⟩ v5) { R with files := z.map Prod.fst } v5 (z.map Prod.snd) := by
  have hmem : ∀ u ∈ z.map Prod.snd, ∀ k, u.ownBlock = some k → k ∈ rfoot p fv vs ∨ (w.heap.size ≤ k ∧ k < w4.heap.size) := fun u hm k e => by
    rcases List.mem_cons.1 (hs.subset (hp.subset hm)) with e1 | e1
    · rw [e1] at e
      exact .inr (hu k e)
    · exact .inl (mem_rfoot_v e1 e)
  have hnew : ∀ k, v5.ownBlock = some k → w4.heap.size ≤ k := fun k e => ho.new e
  have hsz := hb.size
  refine h.setF (hb.trans (ho.bel.mono hsz)) (ho.img hown) (nd_new (fv := fv) ?_ (fun k e hm => ?_)) (fun k e => by have := hnew k e; omega) (fun u hm k e => by
    rcases hmem u hm k e with e1 | e1
    · exact .inl e1
    · exact .inr e1.1)
  · exact nd_perm hp.symm (nd_sub hs (nd_one h u' (fun k e => (hu k e).1)))
  · have h1 := hnew k e
    rcases mem_rfoot hm with e1 | e1 | ⟨u, hm2, e1⟩
    · have := lt_of_block h.row; omega
    · have := h.lt (mem_rfoot_fv (p := p) (vs := vs) e1); omega
    · rcases hmem u hm2 k e1 with e2 | e2
      · have := h.lt e2; omega
      · omega

theorem insZ_fst (z : List (FiD × Value)) (f : FiD) (u : Value) : (insZ z (pl (z.map Prod.fst) f.name) (f, u)).map Prod.fst = insF (z.map Prod.fst) f := by
  unfold insZ insF
  simp

theorem insZ_perm (z : List (FiD × Value)) (P : Nat) (a : FiD × Value) : ((insZ z P a).map Prod.snd).Perm (a.2 :: z.map Prod.snd) := by
  unfold insZ
  rw [List.map_append, List.map_cons]
  refine List.perm_middle.trans ?_
  rw [← List.map_append, List.take_append_drop]

theorem insZ_mem {z : List (FiD × Value)} {P : Nat} {a b : FiD × Value} (h : b ∈ insZ z P a) : b = a ∨ b ∈ z := by
  unfold insZ at h
  rcases List.mem_append.1 h with h | h
  · exact .inr (List.mem_of_mem_take h)
  · rcases List.mem_cons.1 h with h | h
    · exact .inl h
    · exact .inr (List.mem_of_mem_drop h)

theorem zip_self (z : List (FiD × Value)) : (z.map Prod.fst).zip (z.map Prod.snd) = z := by
  induction z with
  | nil => rfl
  | cons a l ih => simp [ih]

/-- A file of the disk, and those of other names. -/
theorem ren_sub {z : List (FiD × Value)} {i : Nat} (hi : i < z.length) {Q Q2 : FiD × Value → Bool} (hq : Q z[i] = false) : (z[i].2 :: ((z.filter Q).filter Q2).map Prod.snd).Perm (z[i].2 :: ((z.filter Q).filter Q2).map Prod.snd) ∧ ∃ l, (z[i].2 :: ((z.filter Q).filter Q2).map Prod.snd).Perm l ∧ l.Sublist (z.map Prod.snd) := by
  refine ⟨List.Perm.refl _, ?_⟩
  have e : z = z.take i ++ z[i] :: z.drop (i + 1) := by rw [← List.drop_eq_getElem_cons hi, List.take_append_drop]
  have hf : z.filter Q = (z.take i).filter Q ++ (z.drop (i + 1)).filter Q := by
    conv => lhs; rw [e]
    rw [List.filter_append, List.filter_cons_of_neg (by simp [hq])]
  refine ⟨(((z.take i).filter Q).filter Q2).map Prod.snd ++ z[i].2 :: (((z.drop (i + 1)).filter Q).filter Q2).map Prod.snd, ?_, ?_⟩
  · rw [hf, List.filter_append, List.map_append]
    exact List.perm_middle.symm
  · conv => rhs; rw [e]
    rw [List.map_append, List.map_cons]
    exact List.Sublist.append (((List.filter_sublist).trans List.filter_sublist).map _) (List.Sublist.cons_cons _ (((List.filter_sublist).trans List.filter_sublist).map _))

theorem OutZ.slice {w wr : World} {v : Value} {z : List (FiD × Value)} (h : OutZ w wr v z) : ∃ x l y, v = .slice x l y := by
  obtain ⟨x, y, e, _⟩ := row_shapeR h.own
  exact ⟨x, _, y, e⟩

theorem Owns.later {w w' : World} {B : Nat} {v : Value} {xs : List Int} (h : Owns w B v xs) (hb : Below w.heap.size w w') : Owns w' B v xs :=
  h.kept (Below.kept hb) (fun k e e' => by have := rows_ltK h e; omega)

theorem rise_filter {fs : List FiD} (h : Rise fs) (Q : FiD → Bool) : Rise (fs.filter Q) := List.Pairwise.sublist List.filter_sublist h

theorem hasF_filter {fs : List FiD} (h : Rise fs) (n : ByteArray) : hasF (fs.filter fun f => decide (f.name ≠ n)) n = false := by
  rw [Bool.eq_false_iff]
  intro e
  obtain ⟨f, hf, e'⟩ := (hasF_mem (rise_filter h _) n).1 e
  have := (List.mem_filter.1 hf).2
  simp [e'] at this

theorem RD.errO_nz {R : RD} {a b : ByteArray} (hb : R.power = true → isNm b = true) : R.errR a b = R.errO a := by
  unfold RD.errR RD.errO
  cases hp : R.power
  · rfl
  · rw [if_pos rfl, if_pos rfl, hb hp, Bool.and_true]

set_option maxHeartbeats 2000000 in
theorem refRename_any {w : World} {p : Nat} {fv : Value} {vs : List Value} {R : RD} (h : IsRd w p fv vs R) (ok : RdOk R) (a b : ByteArray) (ha : a.size ≤ 140737488355328) (hb : b.size ≤ 140737488355328) :
    Calls Tryz.prog 74 #[.pointer (some ⟨p, 0, none⟩), .string a, .string b] w (RctTo w p fv vs (R.act (R.errR a b) (renF R.files a b))) := by
  have hF := refFound_any h ok.rise ok.few a ha
  have hN := refName_any b hb w
  have hl := lt_of_block h.row
  have c2 := h.cells.2.2.1
  have HW : Hid _ := refWrite_any h ok.m0 ok.m1 ok.d0 ok.d1
  have HH : Hid (IsRd w p fv vs R ∧ RdOk R) := ⟨h, ok⟩
  obtain ⟨r, hr⟩ : ∃ r, r = R.act (R.errR a b) (renF R.files a b) := ⟨_, rfl⟩
  rw [← hr]
  have HFF : Hid _ := hF
  have HNN : Hid _ := hN
  clear h ok hF hN ha hb
  by_cases hbad : R.power = true ∧ isNm b = false
  · obtain ⟨hp, hnb⟩ := hbad
    have he : R.errR a b = 22 := by unfold RD.errR; rw [if_pos hp, hnb, Bool.and_false]; rfl
    rw [he] at hr
    rw [hp] at c2
    rw [hnb] at HNN
    have HR : Hid _ := hr
    clear hr hp hnb he
    go_enter Tryz.func74, Tryz.ntmps74
    go_wp2_with fail
    refine Calls.mono HNN.out ?_
    rintro e w1 ⟨rfl, hw1⟩
    subst w1
    go_wp2_with fail
    go_ret
    exact ⟨by rw [HR.out]; rfl, _, _, by rw [HR.out]; exact RdTo.refl HH.out.1⟩
  · have hgood : R.power = true → isNm b = true := fun hp => by
      cases hnb : isNm b
      · exact absurd ⟨hp, hnb⟩ hbad
      · rfl
    rw [RD.errO_nz hgood] at hr
    by_cases he : R.errO a = 0
    · have hh := RD.errO_zero he
      have hpw : R.power = true := by
        cases hp : R.power
        · unfold RD.errO at he; rw [hp] at he; simp at he
        · rfl
      have hnb := hgood hpw
      unfold RD.act at hr
      rw [if_pos he] at hr
      rw [he, if_pos rfl] at HFF
      rw [hnb] at HNN
      rw [hpw] at c2
      have h1 := ((hasF_iff _ _).1 hh).1
      have hnm := ((hasF_iff _ _).1 hh).2
      obtain ⟨P, hP⟩ : ∃ P, P = pl R.files a := ⟨_, rfl⟩
      have hP0 : P < R.files.length := by rw [hP]; exact h1
      have HPN : Hid ((R.files[P]'hP0).name = a) := by show _ = _; subst hP; exact hnm
      rw [← hP] at HFF
      have hP64 : P < 64 := Nat.lt_of_lt_of_le hP0 HH.out.2.few
      have hren : renF R.files a b = movF R.files a b (R.files[P]'hP0) := by
        unfold renF
        rw [← hP, List.getElem?_eq_getElem hP0]
      rw [hren] at hr
      obtain ⟨q, R', hq⟩ : ∃ q R', R.write = (q, R') := ⟨_, _, rfl⟩
      have hwf := R.write_files
      rw [hq] at HW hr hwf
      have HR : Hid _ := hr
      have HWF : Hid (R'.files = R.files) := hwf
      clear hr hh he h1 hnm hP hren hq hwf hbad hgood hpw hnb
      cases q
      · go_enter Tryz.func74, Tryz.ntmps74
        go_wp2_with fail
        refine Calls.mono HNN.out ?_
        rintro e w1 ⟨rfl, hw1⟩
        subst w1
        go_wp2_with fail
        refine Calls.mono HFF.out ?_
        rintro e w1 ⟨rfl, hw1⟩
        subst w1
        go_wp2_with fail
        refine Calls.mono HW.out ?_
        rintro e w2 ⟨rfl, ht2⟩
        have H2 : Hid _ := ht2
        clear ht2
        go_wp2_with fail
        go_ret
        exact ⟨by rw [HR.out]; rfl, _, _, by rw [HR.out]; exact H2.out⟩
      · go_enter Tryz.func74, Tryz.ntmps74
        go_wp2_with fail
        refine Calls.mono HNN.out ?_
        rintro e w1 ⟨rfl, hw1⟩
        subst w1
        go_wp2_with fail
        refine Calls.mono HFF.out ?_
        rintro e w1 ⟨rfl, hw1⟩
        subst w1
        go_wp2_with fail
        refine Calls.mono HW.out ?_
        rintro e w2 ⟨rfl, ht2⟩
        have h2 : IsRd w2 p fv vs R' := ht2.is
        have hP2 : P < R'.files.length := by rw [HWF.out]; exact hP0
        obtain ⟨g, c, u, e0, hc1, hc2, hu, a0, a1, a2, ho⟩ := h2.file P hP2
        obtain ⟨x, y, hu2, hx1, hx2⟩ := own_shape ho
        unfold maxLen at hc2 hx2
        have c1 := h2.cells.2.1
        have hlen64 : R'.files.length ≤ 64 := by rw [HWF.out]; exact HH.out.2.few
        subst e0
        subst hu2
        have hlg : g < w2.heap.size := h2.lt (mem_rfoot_fv rfl)
        have hl2 := lt_of_block h2.row
        have H2 : Hid _ := And.intro ht2 ho
        have HU : Hid _ := hu
        clear ht2 h2 ho hu
        obtain ⟨f, hf⟩ : ∃ f, f = R'.files[P]'hP2 := ⟨_, rfl⟩
        rw [← hf] at a0 a1 a2 hx1 HU H2
        have HFD : Hid _ := hf
        obtain ⟨nm, bs, du⟩ := f
        simp only at a0 a1 a2 hx1 HU H2
        clear hf
        obtain ⟨W, eW⟩ : ∃ W, W = w2.alloc (.cells #[.string b, .slice x bs.length y, .int .i64 du] 38) := ⟨_, rfl⟩
        have hbW : Below w2.heap.size w2 W := by rw [eW]; exact one_allocK _ _
        have hrowW : W.heap[w2.heap.size]? = some (.cells #[.string b, .slice x bs.length y, .int .i64 du] 38 (0, 0)) := by rw [eW]; exact heap_alloc_new w2 _
        have hWs : w2.heap.size < W.heap.size := lt_of_block hrowW
        have HEW : Hid _ := eW
        have hlW : p < W.heap.size := by omega
        have c1W : W.cell? ⟨p, 1, none⟩ = some (.slice (some ⟨g, 0, none⟩) R'.files.length c) := cell_later c1 hbW (Nat.le_refl _)
        obtain ⟨z1, hz1⟩ : ∃ z1, z1 = (R'.files.zip vs).filter fun a_1 => decide (a_1.1.name ≠ a) := ⟨_, rfl⟩
        obtain ⟨z2, hz2⟩ : ∃ z2, z2 = z1.filter fun a_1 => decide (a_1.1.name ≠ b) := ⟨_, rfl⟩
        have HV : Hid (Below w2.heap.size w2 W ∧ W.heap[w2.heap.size]? = some (.cells #[.string b, .slice x bs.length y, .int .i64 du] 38 (0, 0))) := ⟨hbW, hrowW⟩
        have hlz : ((R'.files.zip vs)).length ≤ 64 := by rw [List.length_zip]; omega
        have hl1 : z1.length ≤ 64 := by rw [hz1]; exact Nat.le_trans (List.length_filter_le _ _) hlz
        have hl2' : z2.length ≤ 64 := by rw [hz2]; exact Nat.le_trans (List.length_filter_le _ _) hl1
        have HC1 : Hid (Calls Tryz.prog 84 #[.slice (some ⟨g, 0, none⟩) R'.files.length c, .string a] W fun e w' => ∃ x' l' y', e = .returned (.slice x' l' y') ∧ Hid (OutZ W w' (.slice x' l' y') z1)) := by
          refine (refWithout_any (H2.out.1.is.img.kept (Below.kept hbW) (fun j e => .inr e)) hlen64 a).mono ?_
          rintro e w3 ⟨v', rfl, ho⟩
          obtain ⟨x', l', y', rfl⟩ := ho.slice
          exact ⟨_, _, _, rfl, by rw [hz1]; exact ho⟩
        have HZ1 : Hid _ := hz1
        have HZ2 : Hid _ := hz2
        clear hbW hrowW eW hz1 hz2 hlz
        go_wp2_with fail
        rw [← HEW.out]
        refine Calls.mono HC1.out ?_
        rintro e w3 ⟨x3, l3, y3, rfl, HO3⟩
        have HC2 : Hid (Calls Tryz.prog 84 #[.slice x3 l3 y3, .string b] w3 fun e w' => ∃ x' l' y', e = .returned (.slice x' l' y') ∧ Hid (OutZ w3 w' (.slice x' l' y') z2)) := by
          have himg : ImgAt w3 0 (.slice x3 l3 y3) (z1.map Prod.fst) (z1.map Prod.snd) := HO3.out.img (fun q hq => by
            have h5 : q ∈ R'.files.zip vs := by rw [HZ1.out] at hq; exact (List.mem_filter.1 hq).1
            exact (H2.out.1.is.img.zown q h5).later HV.out.1)
          refine (refWithout_any himg (by rw [List.length_map]; exact hl1) b).mono ?_
          rintro e w4 ⟨v', rfl, ho⟩
          rw [zip_self] at ho
          obtain ⟨x', l', y', rfl⟩ := ho.slice
          exact ⟨_, _, _, rfl, by rw [HZ2.out]; exact ho⟩
        go_wp2_with fail
        refine Calls.mono HC2.out ?_
        rintro e w4 ⟨x4, l4, y4, rfl, HO4⟩
        have hb24 : Below w2.heap.size w2 w4 := Below.step HV.out.1 (Below.step HO3.out.bel HO4.out.bel)
        have hrow4 : w4.heap[w2.heap.size]? = some (.cells #[.string b, .slice x bs.length y, .int .i64 du] 38 (0, 0)) := (Below.kept HO4.out.bel).heap ((Below.kept HO3.out.bel).heap HV.out.2 (fun e => by omega)) (fun e => by have := HO3.out.bel.size; omega)
        have q0 : w4.cell? ⟨w2.heap.size, 0, none⟩ = some (.string b) := cell_of_row w4 _ 0 _ _ _ hrow4
        have q1 : w4.cell? ⟨w2.heap.size, 1, none⟩ = some (.slice x bs.length y) := cell_of_row w4 _ 1 _ _ _ hrow4
        have q2 : w4.cell? ⟨w2.heap.size, 2, none⟩ = some (.int .i64 du) := cell_of_row w4 _ 2 _ _ _ hrow4
        have hl4 := lt_of_block hrow4
        have hl4p : p < w4.heap.size := by omega
        have HC3 : Hid (Calls Tryz.prog 27 #[.slice x4 l4 y4, .agg #[.string b, .slice x bs.length y, .int .i64 du]] w4 fun e w' => ∃ x' l' y', e = .returned (.slice x' l' y') ∧ Hid (∃ fv' vs', RdTo w p (.slice (some ⟨g, 0, none⟩) R'.files.length c) vs (w'.setCell ⟨p, 1, none⟩ (.slice x' l' y')) r.2 fv' vs') ∧ (∃ x0 l0 y0, w'.cell? ⟨p, 1, none⟩ = some (.slice x0 l0 y0)) ∧ w'.frozen? ⟨p, 1, none⟩ = false ∧ p < w'.heap.size) := by
          have hown2 : ∀ q ∈ R'.files.zip vs, Owns w2 0 q.2 q.1.bytes := H2.out.1.is.img.zown
          have hm2 : ∀ q ∈ z2, q ∈ R'.files.zip vs := fun q hq => by
            rw [HZ2.out] at hq
            have h6 := (List.mem_filter.1 hq).1
            rw [HZ1.out] at h6
            exact (List.mem_filter.1 h6).1
          have himg : ImgAt w4 0 (.slice x4 l4 y4) (z2.map Prod.fst) (z2.map Prod.snd) := HO4.out.img (fun q hq => (hown2 q (hm2 q hq)).later (Below.step HV.out.1 HO3.out.bel))
          have hfs : z2.map Prod.fst = (R'.files.filter fun f => decide (f.name ≠ a)).filter fun f => decide (f.name ≠ b) := by
            rw [HZ2.out, filter_fst, HZ1.out, filter_fst, zip_fst _ _ H2.out.1.is.img.len]
          have hrise : Rise R'.files := by rw [HWF.out]; exact HH.out.2.rise
          have hr2 : Rise (z2.map Prod.fst) := by rw [hfs]; exact rise_filter (rise_filter hrise _) _
          have hno : hasF (z2.map Prod.fst) b = false := by rw [hfs]; exact hasF_filter (rise_filter hrise _) b
          refine (refWith_any himg hr2 (by rw [List.length_map]; exact hl2') ⟨b, bs, du⟩ x bs.length y hno).mono ?_
          rintro e w5 ⟨v', rfl, ho⟩
          rw [zip_self] at ho
          obtain ⟨x', l', y', rfl⟩ := ho.slice
          have h5 := H2.out.1.is.later (Below.step hb24 ho.bel)
          have hzP : P < (R'.files.zip vs).length := by rw [List.length_zip, H2.out.1.is.img.len]; omega
          have hzPe : (R'.files.zip vs)[P] = (⟨nm, bs, du⟩, .slice x bs.length y) := by
            have h6 : (R'.files.zip vs)[P]? = some (⟨nm, bs, du⟩, .slice x bs.length y) := by
              rw [List.getElem?_zip_eq_some]
              exact ⟨by rw [List.getElem?_eq_getElem hP2, ← HFD.out], HU.out⟩
            rw [List.getElem?_eq_getElem hzP] at h6
            exact Option.some.inj h6
          have hnma : nm = a := by
            have h6 := HPN.out
            have h7 : (R'.files[P]'hP2).name = (R.files[P]'hP0).name := by congr 2 <;> exact HWF.out
            rw [← HFD.out, h6] at h7
            exact h7
          obtain ⟨_, l, hp1, hs1⟩ := ren_sub hzP (Q := fun a_1 => decide (a_1.1.name ≠ a)) (Q2 := fun a_1 => decide (a_1.1.name ≠ b)) (by rw [hzPe]; simp [hnma])
          rw [← HZ1.out, ← HZ2.out, hzPe] at hp1
          rw [zip_snd _ _ H2.out.1.is.img.len] at hs1
          have hset := H2.out.1.is.setZ (w4 := w4) (w5 := w5) hb24 (.slice none 0 0) (fun k e => by cases e) ho (fun q hq => by
            rcases insZ_mem hq with h6 | h6
            · rw [h6]
              exact H2.out.2.later hb24
            · exact (hown2 q (hm2 q h6)).later hb24) ((insZ_perm _ _ _).trans hp1) (List.Sublist.cons _ hs1)
          have hmov : (insZ z2 (pl (z2.map Prod.fst) b) (⟨b, bs, du⟩, .slice x bs.length y)).map Prod.fst = movF R.files a b (R.files[P]'hP0) := by
            have h8 := insZ_fst z2 ⟨b, bs, du⟩ (.slice x bs.length y)
            rw [h8, hfs, HWF.out, without_eq HH.out.2.rise, without_eq (rise_erase HH.out.2.rise _)]
            have h7 : (R'.files[P]'hP2) = (R.files[P]'hP0) := by congr 1 <;> exact HWF.out
            rw [← HFD.out] at h7
            rw [← h7]
            rfl
          rw [hmov] at hset
          have hr3 : r.2 = { R' with files := movF R.files a b (R.files[P]'hP0) } := by rw [HR.out]; rfl
          have hq := H2.out.1.trans hset
          rw [← hr3] at hq
          exact ⟨_, _, _, rfl, ⟨_, _, hq⟩, ⟨_, _, _, h5.cells.2.1⟩, frozen_of_row w5 p _ _ _ h5.row, lt_of_block h5.row⟩
        have HR1 : Hid (r.1 = 0) := by show _ = _; rw [HR.out]; rfl
        clear hb24 hrow4
        go_wp2_with fail
        refine Calls.mono HC3.out ?_
        rintro e w5 ⟨x', l', y', rfl, HFIN, ⟨x0, l0, y0, d1⟩, f1, l1⟩
        go_wp2_with fail
        go_ret
        exact ⟨by rw [HR1.out]; rfl, HFIN.out⟩
    · unfold RD.act at hr
      rw [if_neg he] at hr HFF
      have HR : Hid _ := hr
      obtain ⟨E, hE⟩ : ∃ E, E = R.errO a := ⟨_, rfl⟩
      rw [← hE] at HFF he HR
      have hb : (E != 0) = true := by simpa using he
      cases hp : R.power
      · rw [hp] at c2
        clear hr he hE hgood hbad hp
        go_enter Tryz.func74, Tryz.ntmps74
        go_wp2_with fail
        refine Calls.mono HFF.out ?_
        rintro e w1 ⟨rfl, hw1⟩
        subst w1
        go_wp2_with fail
        go_ret
        exact ⟨by rw [HR.out]; rfl, _, _, by rw [HR.out]; exact RdTo.refl HH.out.1⟩
      · rw [hgood hp] at HNN
        rw [hp] at c2
        clear hr he hE hgood hbad hp
        go_enter Tryz.func74, Tryz.ntmps74
        go_wp2_with fail
        refine Calls.mono HNN.out ?_
        rintro e w1 ⟨rfl, hw1⟩
        subst w1
        go_wp2_with fail
        refine Calls.mono HFF.out ?_
        rintro e w1 ⟨rfl, hw1⟩
        subst w1
        go_wp2_with fail
        go_ret
        exact ⟨by rw [HR.out]; rfl, _, _, by rw [HR.out]; exact RdTo.refl HH.out.1⟩
end Go.Proofs.YtdhnbgeijfgfaaaGreatDoor
