/- The document's disk: Names, Image, Read. -/
import Derived.Test.YtdbphdllibffnaaGreatRdJJ
import Derived.Test.YtdbphdllibffnaaGreatRdHJ
import Derived.Test.YtdbphdllibffnaaGreatCopyJ
import Derived.Deep.RegionWith
namespace Go.Proofs.YtdbphdllibffnaaGreat
open Go.RowKit Go.Shelf
set_option maxRecDepth 8000

set_option maxHeartbeats 1000000 in
theorem copyFiles_any {w : World} {B : Nat} {v : Value} {fs : List FiD} {vs : List Value} (h : ImgAt w B v fs vs) (hfew : fs.length ≤ 64) (hu : usedD fs ≤ 1000000000) :
    Calls Tryz.prog 37 #[v] w fun e w' => ∃ v' us, e = .returned v' ∧ ImgAt w' w.heap.size v' fs us ∧ Below w.heap.size w w' ∧ (∀ u ∈ us, ∀ k, u.ownBlock = some k → v'.ownBlock ≠ some k) := by
  obtain ⟨fa, fc, rfl, hfc, hfm⟩ := img_shape h
  obtain ⟨N, hN⟩ : ∃ N, N = fs.length := ⟨_, rfl⟩
  have HH : Hid _ := h
  have HU : Hid _ := hu
  rw [← hN] at hfew hfc HH ⊢
  have HN : Hid _ := hN
  obtain ⟨i0, hi, hz0, hz1, hz2⟩ := info_parts Tryz.infoFile
  clear h hN hu
  go_enter Tryz.func37, Tryz.ntmps37
  go_wp2_with fail
  go_loopw [3, 4] (fun vo vi wr => ∃ k : Nat, k ≤ N ∧ vi = .int .i64 k ∧ Hid (∃ us, ImgAt wr w.heap.size vo (fs.take k) us ∧ Below w.heap.size w wr ∧ (∀ u ∈ us, ∀ k, u.ownBlock = some k → vo.ownBlock ≠ some k))) (fun _ vi _ => N - (intOf vi).toNat)
  case atStart => exact ⟨0, Nat.zero_le _, rfl, [], ⟨rfl, World.ownsRow_nil _ _ _ _, fun i u f h => by simp at h⟩, Below.refl _ _, fun u h => by simp at h⟩
  case round =>
    obtain ⟨k, hk, rfl, HO⟩ := hrel
    obtain ⟨us, hus, hbel, hap⟩ := HO.out
    by_cases hlt : k < N
    · have hlt1 : k < fs.length := by rw [← HN.out]; exact hlt
      obtain ⟨g, c, u, e, hzk, a0, a1, a2, ho⟩ := img_at HH.out hbel k hlt1
      obtain ⟨rfl, hNf, rfl⟩ := Value.slice.inj e
      clear hNf e hzk
      obtain ⟨x1, y1, hu2, _⟩ := own_shape (owns_mono ho (Nat.zero_le _))
      have hst : Hid (fs.take (k + 1) = fs.take k ++ [fs[k]]) := List.take_succ_eq_append_getElem hlt1
      have hsz := hbel.size
      have hlen : (fs.take k).length = k := by rw [List.length_take]; have := HN.out; omega
      have hbl : fs[k].bytes.length ≤ 70000000000000 := by
        have := len_used (List.getElem_mem hlt1)
        have := HU.out
        omega
      subst hu2
      -- the box of f
      obtain ⟨W, eW⟩ : ∃ W, W = wr.alloc (.cells #[.string fs[k].name, .slice x1 fs[k].bytes.length y1, .int .i64 fs[k].dur] 70) := ⟨_, rfl⟩
      have hbW : Below wr.heap.size wr W := by rw [eW]; exact one_allocK _ _
      have hrowW : W.heap[wr.heap.size]? = some (.cells #[.string fs[k].name, .slice x1 fs[k].bytes.length y1, .int .i64 fs[k].dur] 70 (0, 0)) := by rw [eW]; exact heap_alloc_new wr _
      have HC : Hid (Calls Tryz.prog 73 #[.slice x1 fs[k].bytes.length y1] W fun e w' => ∃ x' y', e = .returned (.slice x' fs[k].bytes.length y') ∧ Owns w' W.heap.size (.slice x' fs[k].bytes.length y') fs[k].bytes ∧ Below W.heap.size W w') := by
        have hs : Sees W (.slice x1 fs[k].bytes.length y1) fs[k].bytes := Sees.own (ho.kept (Below.kept hbW) (fun q e e' => by have := rows_ltK ho e; omega))
        refine (copyBytes_any _ _ W hs hbl).mono ?_
        rintro e w' ⟨v', rfl, ho3, hb3⟩
        obtain ⟨x', y', e', _⟩ := own_shape (owns_mono ho3 (Nat.zero_le _))
        subst e'
        exact ⟨x', y', rfl, ho3, hb3⟩
      have HI : Hid (ImgAt wr w.heap.size u3 (fs.take k) us ∧ Below w.heap.size w wr ∧ (∀ u ∈ us, ∀ q, u.ownBlock = some q → u3.ownBlock ≠ some q) ∧ Below wr.heap.size wr W) := ⟨hus, hbel, hap, hbW⟩
      have HF : Hid _ := hrowW
      have hWs : W.heap.size = wr.heap.size + 1 := by rw [eW, World.size_alloc]
      clear hus hbel hap ho HO hbW
      have HEW : Hid _ := eW
      clear eW hrowW
      go_wp2_with fail
      rw [← HEW.out]
      refine Calls.mono HC.out ?_
      rintro e w3 ⟨x', y', rfl, ho3, hb3⟩
      have hrow3 : w3.heap[wr.heap.size]? = some (.cells #[.string fs[k].name, .slice x1 fs[k].bytes.length y1, .int .i64 fs[k].dur] 70 (0, 0)) := (Below.kept hb3).heap HF.out (fun e => by omega)
      have hl3 := lt_of_block hrow3
      have fz3 : w3.frozen? ⟨wr.heap.size, 1, none⟩ = false := frozen_of_row w3 _ _ _ _ hrow3
      have q0 : w3.cell? ⟨wr.heap.size, 0, none⟩ = some (.string fs[k].name) := cell_of_row w3 _ 0 _ _ _ hrow3
      have q1 : w3.cell? ⟨wr.heap.size, 1, none⟩ = some (.slice x1 fs[k].bytes.length y1) := cell_of_row w3 _ 1 _ _ _ hrow3
      have q2 : w3.cell? ⟨wr.heap.size, 2, none⟩ = some (.int .i64 fs[k].dur) := cell_of_row w3 _ 2 _ _ _ hrow3
      obtain ⟨w4, e4⟩ : ∃ w4, w4 = w3.setCell ⟨wr.heap.size, 1, none⟩ (.slice x' fs[k].bytes.length y') := ⟨_, rfl⟩
      have hb34 : Kept w3 w4 (fun q => q = wr.heap.size) := by rw [e4]; exact Kept.setCell (Kept.refl _ (fun q => q = wr.heap.size)) ⟨wr.heap.size, 1, none⟩ _ (fun _ => rfl)
      have hk4 : Kept wr w4 (fun q => wr.heap.size ≤ q) := ((Below.kept HI.out.2.2.2).trans' (Below.kept hb3) (fun q _ e => e) (fun q _ e => by omega)).trans' hb34 (fun q _ e => e) (fun q _ e => by omega)
      have ho4 : Owns w4 W.heap.size (.slice x' fs[k].bytes.length y') fs[k].bytes := ho3.kept hb34 (fun q e e' => by have := (ho3.lt q e).1; omega)
      have hown4 : w4.ownsRow w.heap.size 70 3 u3 (fs.take k).length (imgC (fs.take k) us) := row_kept' HI.out.1.own hk4 (fun q e e' => by have := (HI.out.1.own.lt q e).2; omega)
      have hsz4 : w3.heap.size = w4.heap.size := by rw [e4]; simp [World.setCell]
      have hsz4' : w.heap.size ≤ w4.heap.size := by have := hk4.size; omega
      rw [hlen] at hown4
      have HT : Hid (Owns w4 W.heap.size (.slice x' fs[k].bytes.length y') fs[k].bytes ∧ Kept wr w4 (fun q => wr.heap.size ≤ q)) := ⟨ho4, hk4⟩
      have r0 : w4.cell? ⟨wr.heap.size, 0, none⟩ = some (.string fs[k].name) := by rw [e4, cell_of_row _ _ 0 _ _ _ (heap_setK _ hrow3)]; rfl
      have r1 : w4.cell? ⟨wr.heap.size, 1, none⟩ = some (.slice x' fs[k].bytes.length y') := by rw [e4, cell_of_row _ _ 1 _ _ _ (heap_setK _ hrow3)]; rfl
      have r2 : w4.cell? ⟨wr.heap.size, 2, none⟩ = some (.int .i64 fs[k].dur) := by rw [e4, cell_of_row _ _ 2 _ _ _ (heap_setK _ hrow3)]; rfl
      have HO4 : Hid (w4.ownsRow w.heap.size 70 3 u3 k (imgC (fs.take k) us)) := hown4
      clear hb34 ho4 hk4 hown4 ho3 hrow3 hb3
      have HE4 : Hid _ := e4
      go_upto_region 7 with fail
      rw [← HE4.out]
      clear e4
      go_wp2_with (at_builtin; refine wpList_append_own_at _ rfl _ _ 40 rfl w.heap.size 70 i0 _ 3 48 Tryz.underlying40 hi hz0 hz1 hz2 rfl (by decide) u3 k (imgC (fs.take k) us) rfl (row_kept' HO4.out ((Kept.refl w4 (fun _ => False)).alloc _) (fun _ _ h => h)) ⟨w4.heap.size, 0, none⟩ 1 1 [.string fs[k].name, .slice x' fs[k].bytes.length y', .int .i64 fs[k].dur] rfl rfl (new_cell3 w4 _ _ _ _) (one_cell3 _ _ _ _ _) (by unfold maxLen; omega) (by omega) (by show w.heap.size ≤ (World.alloc w4 _).heap.size; rw [World.size_alloc]; exact Nat.le_succ_of_le (by assumption)) ?_)
      intro v' w5 hown' hgrow _ hat
      have HR : Hid (∃ us, ImgAt w5 w.heap.size v' (fs.take (k + 1)) us ∧ Below w.heap.size w w5 ∧ (∀ u ∈ us, ∀ k, u.ownBlock = some k → v'.ownBlock ≠ some k)) := by
        have hk5 : Kept w4 w5 (fun q => u3.ownBlock = some q) := ((Kept.refl w4 (fun q => u3.ownBlock = some q)).alloc _).grown hgrow (fun q _ e => e)
        have hku : ∀ u ∈ us, ∀ q, u.ownBlock = some q → q < wr.heap.size := fun u hu q e => by
          obtain ⟨i, hi2⟩ := List.mem_iff_getElem?.1 hu
          have hil : i < (fs.take k).length := by
            have := (List.getElem?_eq_some_iff.1 hi2).1
            rw [HI.out.1.len] at this
            exact this
          exact rows_ltK (HI.out.1.bys i u _ hi2 (List.getElem?_eq_getElem hil)) e
        have hk3u : ∀ q, u3.ownBlock = some q → q < wr.heap.size := fun q e => (HI.out.1.own.lt q e).2
        have hnb : ∀ q, (Value.slice x' fs[k].bytes.length y').ownBlock = some q → W.heap.size ≤ q ∧ q < w4.heap.size := fun q e => HT.out.1.lt q e
        have hul := HI.out.1.len
        refine ⟨us ++ [.slice x' fs[k].bytes.length y'], ?_, ?_, ?_⟩
        · rw [hst.out]
          refine ⟨by rw [List.length_append, List.length_append, hul]; rfl, ?_, fun i u f hu hf => ?_⟩
          · rw [imgC_snoc _ _ hul, List.length_append, hlen]
            exact hown'
          · rw [List.getElem?_append] at hu hf
            by_cases hik : i < us.length
            · rw [if_pos hik] at hu
              rw [if_pos (by rw [← hul]; exact hik)] at hf
              have hmu := List.mem_of_getElem? hu
              exact ((HI.out.1.bys i u f hu hf).kept HT.out.2 (fun q e e' => by have := hku u hmu q e; omega)).kept hk5 (fun q e e' => HI.out.2.2.1 u hmu q e e')
            · rw [if_neg hik] at hu
              rw [if_neg (by rw [← hul]; exact hik)] at hf
              have h0 : i - us.length = 0 := by
                have := (List.getElem?_eq_some_iff.1 hu).1
                simp at this
                omega
              rw [h0] at hu
              rw [← hul, h0] at hf
              cases hu
              cases hf
              have ho5 := HT.out.1.kept hk5 (fun q e e' => by have := hnb q e; have := hk3u q e'; omega)
              exact owns_mono ho5 (by omega)
        · exact HI.out.2.1.trans (((HT.out.2.below (Nat.le_refl _) (fun q e => e)).mono hsz).trans ((hk5.below (B := w.heap.size) hsz4' (fun q e => by have h8 : w4.ownsRow w.heap.size 70 3 u3 k (imgC (fs.take k) us) := HO4.out; exact (h8.lt q e).1))))
        · intro u hu q e e'
          rcases List.mem_append.1 hu with h4 | h4
          · rcases hat with h5 | h5
            · rw [h5] at e'
              exact HI.out.2.2.1 u h4 q e e'
            · rw [h5] at e'
              have : w4.heap.size + 1 = q := by simpa using e'
              have := hku u h4 q e
              have := HT.out.2.size
              omega
          · have h6 : u = .slice x' fs[k].bytes.length y' := by simpa using h4
            rw [h6] at e
            have h7 := hnb q e
            rcases hat with h5 | h5
            · rw [h5] at e'
              have := hk3u q e'
              omega
            · rw [h5] at e'
              have : w4.heap.size + 1 = q := by simpa using e'
              omega
      clear hown' hgrow hat HO4 HT HI HF HEW
      go_wp2
      go_roundw
      case rel => exact ⟨k + 1, by omega, by go_num, HR⟩
      case measure => simp [intOf]; omega
    · obtain rfl : k = N := by omega
      have e : fs.take k = fs := List.take_of_length_le (by have := HN.out; omega)
      rw [e] at hus
      go_wp2_with fail
      go_ret
      exact ⟨_, us, rfl, hus, hbel, hap⟩
end Go.Proofs.YtdbphdllibffnaaGreat

/- The document's disk: Cut. -/
namespace Go.Proofs.YtdbphdllibffnaaGreat
open Go.RowKit Go.Shelf
set_option maxRecDepth 8000

def RD.errC (R : RD) (n : ByteArray) (k : Int) : Int := if R.errO n = 0 then (if 0 ≤ k ∧ k ≤ ((R.files[pl R.files n]?.map (·.bytes.length)).getD 0 : Nat) then 0 else 1) else R.errO n

/-- A file's durable length is set. -/
theorem IsRd.setD {w : World} {p g n c : Nat} {vs : List Value} {R : RD} (h : IsRd w p (.slice (some ⟨g, 0, none⟩) n c) vs R) (i : Nat) (hi : i < R.files.length) (d : Int) : RdTo w p (.slice (some ⟨g, 0, none⟩) n c) vs (w.setCell ⟨g, i * 3 + 2, none⟩ (.int .i64 d)) { R with files := R.files.set i ⟨R.files[i].name, R.files[i].bytes, d⟩ } (.slice (some ⟨g, 0, none⟩) n c) vs := by
  obtain ⟨hgp, hne⟩ := rfoot_ne h.nd
  have hk : Kept w (w.setCell ⟨g, i * 3 + 2, none⟩ (.int .i64 d)) (fun k => k = g) := Kept.setCell (Kept.refl _ (fun k => k = g)) ⟨g, i * 3 + 2, none⟩ _ (fun _ => rfl)
  exact ⟨⟨hk.heap h.row (fun e => hgp e.symm), h.img.setDur i hi _ (fun u hu k e => (hne u hu k e).1), h.nd⟩, hk.mono (fun k _ e => by rw [e]; exact mem_rfoot_fv rfl), fun k hk => .inl hk⟩

theorem RdTo.after {w w1 w2 : World} {p : Nat} {fv fv2 : Value} {vs vs2 : List Value} {R2 : RD} (hb : Below w.heap.size w w1) (g : RdTo w1 p fv vs w2 R2 fv2 vs2) : RdTo w p fv vs w2 R2 fv2 vs2 :=
  ⟨g.is, (Below.kept hb).trans' g.kept (fun k hk e => by omega) (fun k _ e => e), fun k hk => by
    rcases g.foot k hk with e | e
    · exact .inl e
    · exact .inr (Nat.le_trans hb.size e)⟩

theorem RdTo.then {w w1 w2 : World} {p : Nat} {fv fv1 : Value} {vs vs1 : List Value} {R1 : RD} (h : RdTo w p fv vs w1 R1 fv1 vs1) (hb : Below w1.heap.size w1 w2) : RdTo w p fv vs w2 R1 fv1 vs1 :=
  h.trans ⟨h.is.later hb, (Below.kept hb).mono (fun k hk e => by omega), fun k hk => .inl hk⟩

theorem own_front {w : World} {B : Nat} {x : Option Addr} {L y : Nat} {xs : List Int} (h : Owns w B (.slice x L y) xs) (K : Nat) (hK : K ≤ xs.length) : Owns w B (.slice x K y) (xs.take K) := by
  obtain ⟨h0, ⟨e, e0⟩ | ⟨g, cap, cur, e, h2, h3, h4, h5, h6, h7⟩⟩ := h
  · simp only [Value.slice.injEq] at e
    obtain ⟨rfl, rfl, rfl⟩ := e
    have hx : xs = [] := List.eq_nil_of_length_eq_zero e0
    subst hx
    have : K = 0 := by simpa using hK
    subst this
    exact ⟨by simp, .inl ⟨rfl, rfl⟩⟩
  · simp only [Value.slice.injEq] at e
    obtain ⟨rfl, rfl, rfl⟩ := e
    have hl : (xs.take K).length = K := by rw [List.length_take]; omega
    refine ⟨by simp, .inr ⟨g, y, cur, by rw [hl], h2, h3, by omega, h5, h6, ?_⟩⟩
    have h7' := congrArg (fun l => l.take (K * 1)) h7
    simp only [List.take_take, Nat.mul_one] at h7'
    rw [hl, Nat.mul_one, List.map_take, ← h7', Nat.min_eq_left hK]

end Go.Proofs.YtdbphdllibffnaaGreat

/- The document's disk: another list of files is set; Image, Read, Remove, Rename. -/
namespace Go.Proofs.YtdbphdllibffnaaGreat
open Go.RowKit Go.Shelf
set_option maxRecDepth 8000

theorem flat_perm {l1 l2 : List Value} (h : l1.Perm l2) : (l1.flatMap fun v => v.ownBlock.toList).Perm (l2.flatMap fun v => v.ownBlock.toList) := by
  induction h with
  | nil => exact List.Perm.refl _
  | cons a _ ih => simp only [List.flatMap_cons]; exact List.Perm.append_left _ ih
  | swap a b l => simp only [List.flatMap_cons, ← List.append_assoc]; exact List.Perm.append_right _ List.perm_append_comm
  | trans _ _ h1 h2 => exact h1.trans h2

theorem flat_sub {l1 l2 : List Value} (h : l1.Sublist l2) : (l1.flatMap fun v => v.ownBlock.toList).Sublist (l2.flatMap fun v => v.ownBlock.toList) := by
  induction h with
  | slnil => exact List.Sublist.refl _
  | cons a _ ih => simp only [List.flatMap_cons]; exact ih.trans (List.sublist_append_right _ _)
  | cons_cons a _ ih => simp only [List.flatMap_cons]; exact List.Sublist.append (List.Sublist.refl _) ih

theorem nd_perm {p : Nat} {fv : Value} {l1 l2 : List Value} (h : l1.Perm l2) (hn : (rfoot p fv l1).Nodup) : (rfoot p fv l2).Nodup :=
  (List.Perm.cons p (List.Perm.append_left _ (flat_perm h))).nodup_iff.1 hn

theorem nd_sub {p : Nat} {fv : Value} {l1 l2 : List Value} (h : l1.Sublist l2) (hn : (rfoot p fv l2).Nodup) : (rfoot p fv l1).Nodup :=
  hn.sublist (List.Sublist.cons_cons p (List.Sublist.append (List.Sublist.refl _) (flat_sub h)))

theorem nd_new {p : Nat} {fv v' : Value} {vs : List Value} (h : (rfoot p fv vs).Nodup) (hv : ∀ k, v'.ownBlock = some k → k ∉ rfoot p fv vs) : (rfoot p v' vs).Nodup := by
  unfold rfoot at h hv ⊢
  have h1 : (p :: vs.flatMap fun v => v.ownBlock.toList).Nodup := h.sublist (List.Sublist.cons_cons p (List.sublist_append_right _ _))
  cases e : v'.ownBlock with
  | none => simpa using h1
  | some k =>
    have hk := hv k e
    have hk2 : k ∉ p :: vs.flatMap fun v => v.ownBlock.toList := fun h2 => hk (by
      rcases List.mem_cons.1 h2 with h3 | h3
      · rw [h3]; exact List.mem_cons_self ..
      · exact List.mem_cons_of_mem _ (List.mem_append.2 (.inr h3)))
    have hp : (p :: ((some k).toList ++ vs.flatMap fun v => v.ownBlock.toList)).Perm (k :: p :: vs.flatMap fun v => v.ownBlock.toList) := List.Perm.swap k p _
    exact hp.nodup_iff.2 (List.nodup_cons.2 ⟨hk2, h1⟩)

/-- Another list of files is set. -/
theorem IsRd.setF {w w1 : World} {p : Nat} {fv v' : Value} {vs vs' : List Value} {R : RD} (h : IsRd w p fv vs R) (hb : Below w.heap.size w w1) {fs' : List FiD} (hi : ImgAt w1 0 v' fs' vs') (hnd : (rfoot p v' vs').Nodup) (hv : ∀ k, v'.ownBlock = some k → w.heap.size ≤ k) (hf : ∀ u ∈ vs', ∀ k, u.ownBlock = some k → k ∈ rfoot p fv vs ∨ w.heap.size ≤ k) :
    RdTo w p fv vs (w1.setCell ⟨p, 1, none⟩ v') { R with files := fs' } v' vs' := by
  have hk : Kept w1 (w1.setCell ⟨p, 1, none⟩ v') (fun k => k = p) := Kept.setCell (Kept.refl _ (fun k => k = p)) ⟨p, 1, none⟩ _ (fun _ => rfl)
  have hp := lt_of_block h.row
  have hrow1 : w1.heap[p]? = some (.cells (rdQ fv R) 42 (0, 0)) := (Below.kept hb).heap h.row (fun e => by omega)
  have hnp := (List.nodup_cons.1 hnd).1
  refine ⟨⟨heap_setK _ hrow1, ?_, hnd⟩, (Below.kept hb).trans' hk (fun k hk e => by omega) (fun k _ e => by rw [e]; exact mem_rfoot_p), fun k hk => ?_⟩
  · exact hi.keptF hk (fun k e e' => hnp (by rw [← e']; exact List.mem_append.2 (.inl (by rw [e]; simp)))) (fun u hu k e e' => hnp (by rw [← e']; exact List.mem_append.2 (.inr (List.mem_flatMap.2 ⟨u, hu, by rw [e]; simp⟩))))
  · rcases mem_rfoot hk with e | e | ⟨u, hu, e⟩
    · exact .inl (by rw [e]; exact mem_rfoot_p)
    · exact .inr (hv k e)
    · exact hf u hu k e

theorem zip_fst (fs : List FiD) (vs : List Value) (h : vs.length = fs.length) : (fs.zip vs).map Prod.fst = fs := by
  rw [List.map_fst_zip]; omega
theorem zip_snd (fs : List FiD) (vs : List Value) (h : vs.length = fs.length) : (fs.zip vs).map Prod.snd = vs := by
  rw [List.map_snd_zip]; omega

theorem ImgAt.zown {w : World} {B : Nat} {v : Value} {fs : List FiD} {vs : List Value} (h : ImgAt w B v fs vs) : ∀ a ∈ fs.zip vs, Owns w 0 a.2 a.1.bytes := fun a ha => by
  obtain ⟨i, hi⟩ := List.mem_iff_getElem?.1 ha
  obtain ⟨h1, h2⟩ := List.getElem?_zip_eq_some.1 hi
  exact owns_mono (h.bys i a.2 a.1 h2 h1) (Nat.zero_le _)

/-- Some of a disk's files, in a new list. -/
theorem IsRd.sub {w w1 : World} {p : Nat} {fv v' : Value} {vs : List Value} {R : RD} (h : IsRd w p fv vs R) (Q : FiD × Value → Bool) (ho : OutZ w w1 v' ((R.files.zip vs).filter Q)) :
    RdTo w p fv vs (w1.setCell ⟨p, 1, none⟩ v') { R with files := ((R.files.zip vs).filter Q).map Prod.fst } v' (((R.files.zip vs).filter Q).map Prod.snd) := by
  have hs : (((R.files.zip vs).filter Q).map Prod.snd).Sublist vs := by
    have := (List.filter_sublist (l := R.files.zip vs) (p := Q)).map Prod.snd
    rwa [zip_snd _ _ h.img.len] at this
  refine h.setF ho.bel (ho.img (fun a ha => h.img.zown a ((List.mem_filter.1 ha).1))) (nd_new (nd_sub hs h.nd) (fun k e hm => ?_)) (fun k e => ho.new e) (fun u hu k e => .inl (mem_rfoot_v (hs.subset hu) e))
  have h1 := ho.new e
  rcases mem_rfoot hm with e1 | e1 | ⟨u, hu, e1⟩
  · have := lt_of_block h.row; omega
  · have := h.lt (mem_rfoot_fv (p := p) (vs := vs) e1); omega
  · have := h.lt (mem_rfoot_v (p := p) (fv := fv) (hs.subset hu) e1); omega

theorem filter_fst (z : List (FiD × Value)) (n : ByteArray) : (z.filter fun a => decide (a.1.name ≠ n)).map Prod.fst = (z.map Prod.fst).filter fun f => decide (f.name ≠ n) := by
  rw [List.filter_map]; rfl

set_option maxHeartbeats 400000 in
theorem refImage_any {w : World} {p : Nat} {fv : Value} {vs : List Value} {R : RD} (h : IsRd w p fv vs R) (ok : RdOk R) :
    Calls Tryz.prog 13 #[.pointer (some ⟨p, 0, none⟩)] w fun e w' => ∃ v' us, e = .returned v' ∧ ImgAt w' w.heap.size v' R.files us ∧ Below w.heap.size w w' := by
  have HC : Hid _ := copyFiles_any h.img ok.few ok.used
  obtain ⟨fa, fc, hfv, hfc, hfm⟩ := img_shape h.img
  have c1 := h.cells.2.1
  have hl := lt_of_block h.row
  rw [hfv] at c1 HC
  clear h ok hfv
  go_enter Tryz.func13, Tryz.ntmps13
  go_wp2_with fail
  refine Calls.mono HC.out ?_
  rintro e w1 ⟨v', us, rfl, h1, h2, _⟩
  have HR : Hid _ := And.intro h1 h2
  clear h1 h2
  go_wp2_with fail
  go_ret
  exact ⟨v', us, rfl, HR.out⟩

set_option maxHeartbeats 400000 in
theorem refRead_any {w : World} {p : Nat} {fv : Value} {vs : List Value} {R : RD} (h : IsRd w p fv vs R) (ok : RdOk R) (n : ByteArray) (hn : n.size ≤ 140737488355328) :
    Calls Tryz.prog 54 #[.pointer (some ⟨p, 0, none⟩), .string n] w fun e w' => (∃ v, e = .returned (.tuple #[v, .int .i64 (R.errO n)]) ∧ (R.errO n ≠ 0 → v = .slice none 0 0) ∧ (R.errO n = 0 → ∃ f, R.files[pl R.files n]? = some f ∧ Owns w' w.heap.size v f.bytes)) ∧ Below w.heap.size w w' := by
  have hF := refFound_any h ok.rise ok.few n hn
  have hl := lt_of_block h.row
  by_cases he : R.errO n = 0
  · have hh := RD.errO_zero he
    rw [he, if_pos rfl] at hF
    have h1 := ((hasF_iff _ _).1 hh).1
    have HF : Hid _ := hF
    obtain ⟨P, hP⟩ : ∃ P, P = pl R.files n := ⟨_, rfl⟩
    have hP0 : P < R.files.length := by rw [hP]; exact h1
    rw [← hP] at HF
    have hP64 : P < 64 := Nat.lt_of_lt_of_le hP0 ok.few
    obtain ⟨g, c, u, e0, hc1, hc2, hu, a0, a1, a2, ho⟩ := h.file P hP0
    obtain ⟨x, y, hu2, hx1, hx2⟩ := own_shape ho
    unfold maxLen at hc2 hx2
    have c1 := h.cells.2.1
    have hlen64 := ok.few
    subst e0
    subst hu2
    have hlg : g < w.heap.size := h.lt (mem_rfoot_fv rfl)
    have HC : Hid (Calls Tryz.prog 73 #[.slice x R.files[P].bytes.length y] w fun e w' => ∃ v', e = .returned v' ∧ Owns w' w.heap.size v' R.files[P].bytes ∧ Below w.heap.size w w') := copyBytes_any _ _ w (Sees.own ho) (by have := len_used (List.getElem_mem hP0); have := ok.used; omega)
    have HQ : Hid (R.files[pl R.files n]? = some (R.files[P]'hP0)) := by show _ = _; rw [← hP]; exact List.getElem?_eq_getElem hP0
    rw [he]
    generalize R.files[P] = f at *
    generalize f.bytes.length = L at *
    generalize R.files.length = FL at *
    clear hF hh h1 hP he h ok ho hu a0 a2
    go_enter Tryz.func54, Tryz.ntmps54
    go_wp2_with fail
    refine Calls.mono HF.out ?_
    rintro e w1 ⟨rfl, hw1⟩
    subst w1
    go_wp2_with fail
    refine Calls.mono HC.out ?_
    rintro e w1 ⟨v', rfl, h1, h2⟩
    have HR : Hid _ := And.intro h1 h2
    clear h1 h2
    go_wp2_with fail
    go_ret2
    exact ⟨⟨v', rfl, fun e => absurd rfl e, fun _ => ⟨_, HQ.out, HR.out.1⟩⟩, HR.out.2⟩
  · rw [if_neg he] at hF
    have HF : Hid _ := hF
    have HE : Hid _ := he
    generalize R.errO n = E at *
    have hb : (E != 0) = true := by simpa using he
    clear hF he h ok
    go_enter Tryz.func54, Tryz.ntmps54
    go_wp2_with fail
    refine Calls.mono HF.out ?_
    rintro e w1 ⟨rfl, hw1⟩
    subst w1
    go_wp2_with fail
    go_ret2
    exact ⟨⟨_, rfl, fun _ => rfl, fun e => absurd e HE.out⟩, Below.refl _ _⟩
end Go.Proofs.YtdbphdllibffnaaGreat

/- The document's disk: Remove, Rename. -/
namespace Go.Proofs.YtdbphdllibffnaaGreat
open Go.RowKit Go.Shelf
set_option maxRecDepth 8000

set_option maxHeartbeats 1000000 in
theorem refRemove_any {w : World} {p : Nat} {fv : Value} {vs : List Value} {R : RD} (h : IsRd w p fv vs R) (ok : RdOk R) (n : ByteArray) (hn : n.size ≤ 140737488355328) :
    Calls Tryz.prog 28 #[.pointer (some ⟨p, 0, none⟩), .string n] w (RctTo w p fv vs (R.act (R.errO n) (R.files.eraseIdx (dropI R.files n)))) := by
  have hF := refFound_any h ok.rise ok.few n hn
  have hl := lt_of_block h.row
  have HW : Hid _ := refWrite_any h ok.m0 ok.m1 ok.d0 ok.d1
  have HH : Hid (IsRd w p fv vs R ∧ RdOk R) := ⟨h, ok⟩
  obtain ⟨r, hr⟩ : ∃ r, r = R.act (R.errO n) (R.files.eraseIdx (dropI R.files n)) := ⟨_, rfl⟩
  rw [← hr]
  clear h ok
  by_cases he : R.errO n = 0
  · rw [he, if_pos rfl] at hF
    unfold RD.act at hr
    rw [if_pos he] at hr
    have HF : Hid _ := hF
    obtain ⟨q, R', hq⟩ : ∃ q R', R.write = (q, R') := ⟨_, _, rfl⟩
    have hwf := R.write_files
    rw [hq] at HW hr hwf
    have HR : Hid _ := hr
    have HWF : Hid (R'.files = R.files) := hwf
    clear hF hr he hq hwf
    generalize pl R.files n = P at *
    cases q
    · go_enter Tryz.func28, Tryz.ntmps28
      go_wp2_with fail
      refine Calls.mono HF.out ?_
      rintro e w1 ⟨rfl, hw1⟩
      subst w1
      go_wp2_with fail
      refine Calls.mono HW.out ?_
      rintro e w2 ⟨rfl, ht2⟩
      have H2 : Hid _ := ht2
      clear ht2
      go_wp2_with fail
      go_ret
      exact ⟨by rw [HR.out]; rfl, _, _, by rw [HR.out]; exact H2.out⟩
    · go_enter Tryz.func28, Tryz.ntmps28
      go_wp2_with fail
      refine Calls.mono HF.out ?_
      rintro e w1 ⟨rfl, hw1⟩
      subst w1
      go_wp2_with fail
      refine Calls.mono HW.out ?_
      rintro e w2 ⟨rfl, ht2⟩
      have h2 : IsRd w2 p fv vs R' := ht2.is
      obtain ⟨fa, fc, hfv, hfc, hfm⟩ := img_shape h2.img
      have c1 := h2.cells.2.1
      have hl2 := lt_of_block h2.row
      have HC : Hid (Calls Tryz.prog 70 #[fv, .string n] w2 fun e w' => ∃ x' l' y', e = .returned (.slice x' l' y') ∧ Hid (∃ fv' vs', RdTo w p fv vs (w'.setCell ⟨p, 1, none⟩ (.slice x' l' y')) r.2 fv' vs') ∧ (∃ x0 l0 y0, w'.cell? ⟨p, 1, none⟩ = some (.slice x0 l0 y0)) ∧ w'.frozen? ⟨p, 1, none⟩ = false ∧ p < w'.heap.size) := by
        refine (refWithout_any h2.img (by rw [HWF.out]; exact HH.out.2.few) n).mono ?_
        rintro e w3 ⟨v', rfl, ho⟩
        have h3 := h2.later ho.bel
        have hs := h2.sub _ ho
        obtain ⟨x', l', y', e'⟩ : ∃ x' l' y', v' = .slice x' l' y' := by
          obtain ⟨x', y', e', _⟩ := img_shape hs.is.img
          exact ⟨_, _, _, e'⟩
        have e2 : ((R'.files.zip vs).filter fun a => decide (a.1.name ≠ n)).map Prod.fst = R.files.eraseIdx (dropI R.files n) := by
          rw [filter_fst, zip_fst _ _ h2.img.len, HWF.out, without_eq HH.out.2.rise]
        subst e'
        rw [e2] at hs
        have hr2 : r.2 = { R' with files := R.files.eraseIdx (dropI R.files n) } := by rw [HR.out]; rfl
        have hq := ht2.trans hs
        rw [← hr2] at hq
        exact ⟨_, _, _, rfl, ⟨_, _, hq⟩, ⟨_, _, _, by rw [← hfv]; exact h3.cells.2.1⟩, frozen_of_row w3 p _ _ _ h3.row, lt_of_block h3.row⟩
      have HR1 : Hid (r.1 = 0) := by show _ = _; rw [HR.out]; rfl
      rw [hfv] at c1 HC
      have HFV : Hid _ := hfv
      clear hfv h2 ht2 HR HW HF HWF HH
      go_wp2_with fail
      refine Calls.mono HC.out ?_
      rintro e w3 ⟨x', l', y', rfl, HFIN, ⟨x0, l0, y0, d1⟩, f1, l1⟩
      go_wp2_with fail
      go_ret
      exact ⟨by rw [HR1.out]; rfl, by rw [HFV.out]; exact HFIN.out⟩
  · rw [if_neg he] at hF
    unfold RD.act at hr
    rw [if_neg he] at hr
    have HR : Hid _ := hr
    have HF : Hid _ := hF
    obtain ⟨E, hE⟩ : ∃ E, E = R.errO n := ⟨_, rfl⟩
    rw [← hE] at HF he HR
    have hb : (E != 0) = true := by simpa using he
    clear hF hr he hE
    go_enter Tryz.func28, Tryz.ntmps28
    go_wp2_with fail
    refine Calls.mono HF.out ?_
    rintro e w1 ⟨rfl, hw1⟩
    subst w1
    go_wp2_with fail
    go_ret
    exact ⟨by rw [HR.out]; rfl, _, _, by rw [HR.out]; exact RdTo.refl HH.out.1⟩
end Go.Proofs.YtdbphdllibffnaaGreat
