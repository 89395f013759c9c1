/- The document's disk: Cut. -/
import Derived.Test.YtdhnbgeijfgfaaaGreatDoorRdIJ
import Derived.Test.YtdhnbgeijfgfaaaGreatDoorCopyJ
import Derived.Deep.RegionWith
namespace Go.Proofs.YtdhnbgeijfgfaaaGreatDoor
open Go.RowKit Go.Shelf
set_option maxRecDepth 8000

def RD.errC (R : RD) (n : ByteArray) (k : Int) : Int := if R.errO n = 0 then (if 0 ≤ k ∧ k ≤ ((R.files[pl R.files n]?.map (·.bytes.length)).getD 0 : Nat) then 0 else 1) else R.errO n

/-- A file's durable length is set. -/
theorem IsRd.setD {w : World} {p g n c : Nat} {vs : List Value} {R : RD} (h : IsRd w p (.slice (some ⟨g, 0, none⟩) n c) vs R) (i : Nat) (hi : i < R.files.length) (d : Int) : RdTo w p (.slice (some ⟨g, 0, none⟩) n c) vs (w.setCell ⟨g, i * 3 + 2, none⟩ (.int .i64 d)) { R with files := R.files.set i ⟨R.files[i].name, R.files[i].bytes, d⟩ } (.slice (some ⟨g, 0, none⟩) n c) vs := by
  obtain ⟨hgp, hne⟩ := rfoot_ne h.nd
  have hk : Kept w (w.setCell ⟨g, i * 3 + 2, none⟩ (.int .i64 d)) (fun k => k = g) := Kept.setCell (Kept.refl _ (fun k => k = g)) ⟨g, i * 3 + 2, none⟩ _ (fun _ => rfl)
  exact ⟨⟨hk.heap h.row (fun e => hgp e.symm), h.img.setDur i hi _ (fun u hu k e => (hne u hu k e).1), h.nd⟩, hk.mono (fun k _ e => by rw [e]; exact mem_rfoot_fv rfl), fun k hk => .inl hk⟩

theorem RdTo.after {w w1 w2 : World} {p : Nat} {fv fv2 : Value} {vs vs2 : List Value} {R2 : RD} (hb : Below w.heap.size w w1) (g : RdTo w1 p fv vs w2 R2 fv2 vs2) : RdTo w p fv vs w2 R2 fv2 vs2 :=
  ⟨g.is, (Below.kept hb).trans' g.kept (fun k hk e => by omega) (fun k _ e => e), fun k hk => by
    rcases g.foot k hk with e | e
    · exact .inl e
    · exact .inr (Nat.le_trans hb.size e)⟩

theorem RdTo.then {w w1 w2 : World} {p : Nat} {fv fv1 : Value} {vs vs1 : List Value} {R1 : RD} (h : RdTo w p fv vs w1 R1 fv1 vs1) (hb : Below w1.heap.size w1 w2) : RdTo w p fv vs w2 R1 fv1 vs1 :=
  h.trans ⟨h.is.later hb, (Below.kept hb).mono (fun k hk e => by omega), fun k hk => .inl hk⟩

theorem own_front {w : World} {B : Nat} {x : Option Addr} {L y : Nat} {xs : List Int} (h : Owns w B (.slice x L y) xs) (K : Nat) (hK : K ≤ xs.length) : Owns w B (.slice x K y) (xs.take K) := by
  obtain ⟨h0, ⟨e, e0⟩ | ⟨g, cap, cur, e, h2, h3, h4, h5, h6, h7⟩⟩ := h
  · simp only [Value.slice.injEq] at e
    obtain ⟨rfl, rfl, rfl⟩ := e
    have hx : xs = [] := List.eq_nil_of_length_eq_zero e0
    subst hx
    have : K = 0 := by simpa using hK
    subst this
    exact ⟨by simp, .inl ⟨rfl, rfl⟩⟩
  · simp only [Value.slice.injEq] at e
    obtain ⟨rfl, rfl, rfl⟩ := e
    have hl : (xs.take K).length = K := by rw [List.length_take]; omega
    refine ⟨by simp, .inr ⟨g, y, cur, by rw [hl], h2, h3, by omega, h5, h6, ?_⟩⟩
    have h7' := congrArg (fun l => l.take (K * 1)) h7
    simp only [List.take_take, Nat.mul_one] at h7'
    rw [hl, Nat.mul_one, List.map_take, ← h7', Nat.min_eq_left hK]

/-- A copy of a file's first bytes. -/
theorem IsRd.copy {w : World} {p g n c : Nat} {vs : List Value} {R : RD} (h : IsRd w p (.slice (some ⟨g, 0, none⟩) n c) vs R) (hu : usedD R.files ≤ 1000000000) (i : Nat) (hi : i < R.files.length) {x : Option Addr} {L y : Nat} (hv : vs[i]? = some (.slice x L y)) (K : Nat) (hK : K ≤ R.files[i].bytes.length) (V : World) (hV : Below w.heap.size w V) :
    Calls Tryz.prog 28 #[.slice x K y] V fun e w' => ∃ x' y', e = .returned (.slice x' K y') ∧ Owns w' 0 (.slice x' K y') (R.files[i].bytes.take K) ∧ (∀ k, (Value.slice x' K y').ownBlock = some k → w.heap.size ≤ k) ∧ Below w.heap.size w w' ∧ IsRd w' p (.slice (some ⟨g, 0, none⟩) n c) vs R := by
  have ho := h.img.bys i _ _ hv (List.getElem?_eq_getElem hi)
  have ho2 := own_front ho K hK
  have hlt : ∀ k, (Value.slice x K y).ownBlock = some k → k < w.heap.size := fun k e => rows_ltK ho (k := k) (by cases x <;> exact e)
  have hs : Sees V (.slice x K y) (R.files[i].bytes.take K) := Sees.own (ho2.kept (Below.kept hV) (fun k e e' => by have := hlt k e; omega))
  have hl : (R.files[i].bytes.take K).length = K := by rw [List.length_take]; omega
  refine (copyBytes_any _ _ V hs (by have := len_used (List.getElem_mem hi); rw [hl]; omega)).mono ?_
  rintro e w' ⟨v', rfl, ho3, hb3⟩
  have hbb : Below w.heap.size w w' := hV.trans (hb3.mono hV.size)
  obtain ⟨x', y', e', _⟩ := own_shape (owns_mono ho3 (Nat.zero_le _))
  rw [hl] at e'
  subst e'
  exact ⟨x', y', rfl, owns_mono ho3 (Nat.zero_le _), fun k e => Nat.le_trans hV.size (ho3.lt k e).1, hbb, h.later hbb⟩

set_option maxHeartbeats 2000000 in
theorem refCut_any {w : World} {p : Nat} {fv : Value} {vs : List Value} {R : RD} (h : IsRd w p fv vs R) (ok : RdOk R) (n : ByteArray) (hn : n.size ≤ 140737488355328) (k : Int) :
    Calls Tryz.prog 73 #[.pointer (some ⟨p, 0, none⟩), .string n, .int .i64 k] w (RctTo w p fv vs (R.act (R.errC n k) (updF R.files n (cutF k.toNat)))) := by
  have hF := refFound_any h ok.rise ok.few n hn
  have hl := lt_of_block h.row
  have HW : Hid _ := refWrite_any h ok.m0 ok.m1 ok.d0 ok.d1
  have HH : Hid (IsRd w p fv vs R ∧ RdOk R) := ⟨h, ok⟩
  obtain ⟨r, hr⟩ : ∃ r, r = R.act (R.errC n k) (updF R.files n (cutF k.toNat)) := ⟨_, rfl⟩
  rw [← hr]
  clear h ok
  by_cases he : R.errO n = 0
  · have hh := RD.errO_zero he
    unfold RD.errC at hr
    rw [he, if_pos rfl] at hF
    rw [if_pos he] at hr
    have h1 := ((hasF_iff _ _).1 hh).1
    rw [List.getElem?_eq_getElem h1] at hr
    have HF : Hid _ := hF
    have HP : Hid _ := h1
    obtain ⟨P, hP⟩ : ∃ P, P = pl R.files n := ⟨_, rfl⟩
    rw [← hP] at HF HP
    have hP0 : P < R.files.length := HP.out
    obtain ⟨L, hL⟩ : ∃ L, L = (R.files[P]'hP0).bytes.length := ⟨_, rfl⟩
    have hr' : r = R.act (if 0 ≤ k ∧ k ≤ (L : Int) then 0 else 1) (updF R.files n (cutF k.toNat)) := by
      rw [hr]
      congr 1
      subst hP
      rw [hL]
      rfl
    have hP64 : P < 64 := Nat.lt_of_lt_of_le HP.out HH.out.2.few
    have HPP : Hid _ := hP
    clear hF hh h1 hP hr he
    obtain ⟨g, c, u, e0, hc1, hc2, hu, a0, a1, a2, ho⟩ := HH.out.1.file P hP0
    obtain ⟨x, y, hu2, hx1, hx2⟩ := own_shape ho
    unfold maxLen at hc2 hx2
    have c1 := HH.out.1.cells.2.1
    have hlen64 := HH.out.2.few
    subst e0
    subst hu2
    obtain ⟨FL, hFL⟩ : ∃ FL, FL = R.files.length := ⟨_, rfl⟩
    have HLL : Hid _ := hL
    have HFL : Hid _ := hFL
    have hlg : g < w.heap.size := HH.out.1.lt (mem_rfoot_fv rfl)
    have HU : Hid _ := hu
    rw [← hL] at a1 hx1 HU
    rw [← hFL] at c1 hc1 hlen64 HW HH ⊢
    have hP' : P < FL := by rw [hFL]; exact HP.out
    clear hL hFL ho hu a0 a2
    by_cases hk : 0 ≤ k ∧ k ≤ (L : Int)
    · rw [if_pos hk] at hr'
      unfold RD.act at hr'
      rw [if_pos rfl] at hr'
      obtain ⟨q, R', hq⟩ : ∃ q R', R.write = (q, R') := ⟨_, _, rfl⟩
      have hwf := R.write_files
      rw [hq] at HW hr' hwf
      have HR : Hid _ := hr'
      have HWF : Hid (R'.files = R.files) := hwf
      obtain ⟨K, rfl⟩ : ∃ K : Nat, k = (K : Int) := ⟨k.toNat, by omega⟩
      have hKL : K ≤ L := by omega
      have hb1 : decide ((K : Int) < 0) = false := decide_eq_false (by omega)
      have hb2 : decide ((K : Int) > (L : Int)) = false := decide_eq_false (by omega)
      clear hr' hwf hk hq
      cases q
      · go_enter Tryz.func73, Tryz.ntmps73
        go_wp2_with fail
        refine Calls.mono HF.out ?_
        rintro e w1 ⟨rfl, hw1⟩
        subst w1
        go_wp2_with fail
        refine Calls.mono HW.out ?_
        rintro e w2 ⟨rfl, ht2⟩
        have H2 : Hid _ := ht2
        clear ht2
        go_wp2_with fail
        go_ret
        exact ⟨by rw [HR.out]; rfl, _, _, by rw [HR.out]; exact H2.out⟩
      · go_enter Tryz.func73, Tryz.ntmps73
        go_wp2_with fail
        refine Calls.mono HF.out ?_
        rintro e w1 ⟨rfl, hw1⟩
        subst w1
        go_wp2_with fail
        refine Calls.mono HW.out ?_
        rintro e w2 ⟨rfl, ht2⟩
        have h2 : IsRd w2 p (.slice (some ⟨g, 0, none⟩) FL c) vs R' := ht2.is
        have hbd : Below w2.heap.size w2 w2.drew := below_drewN (Below.refl _ _) 1
        have hP2 : P < R'.files.length := by rw [HWF.out]; exact HP.out
        have hKb : K ≤ R'.files[P].bytes.length := by
          have e : R'.files[P] = R.files[P]'hP0 := by congr 1 <;> exact HWF.out
          rw [e, ← HLL.out]
          exact hKL
        have HC : Hid (Calls Tryz.prog 28 #[.slice x K y] w2.drew fun e w' => ∃ x' y', e = .returned (.slice x' K y') ∧ Hid (∃ fv' vs', RdTo w p (.slice (some ⟨g, 0, none⟩) FL c) vs ((w'.setCell ⟨g, P * 3 + 1, none⟩ (.slice x' K y')).setCell ⟨g, P * 3 + 2, none⟩ (.int .i64 K)) r.2 fv' vs') ∧ w'.cell? ⟨p, 1, none⟩ = some (.slice (some ⟨g, 0, none⟩) FL c) ∧ w'.cell? ⟨g, P * 3 + 1, none⟩ = some (.slice x L y) ∧ (∃ du, w'.cell? ⟨g, P * 3 + 2, none⟩ = some (.int .i64 du)) ∧ w'.frozen? ⟨g, P * 3 + 1, none⟩ = false ∧ w'.frozen? ⟨g, P * 3 + 2, none⟩ = false ∧ g < w'.heap.size ∧ p < w'.heap.size ∧ (w'.setCell ⟨g, P * 3 + 1, none⟩ (.slice x' K y')).cell? ⟨p, 1, none⟩ = some (.slice (some ⟨g, 0, none⟩) FL c) ∧ (∃ du, (w'.setCell ⟨g, P * 3 + 1, none⟩ (.slice x' K y')).cell? ⟨g, P * 3 + 2, none⟩ = some (.int .i64 du))) := by
          refine (h2.copy (by rw [HWF.out]; exact HH.out.2.used) P hP2 HU.out K hKb w2.drew hbd).mono ?_
          rintro e w3 ⟨x', y', rfl, ho3, hnew, hb3, h3⟩
          refine ⟨x', y', rfl, ?_, h3.cells.2.1, ?_⟩
          · have hvl : P < vs.length := by rw [h2.img.len]; exact hP2
            have s1 := h2.setB (w1 := w3) P hP2 hvl (.slice x' K y') (R'.files[P].bytes.take K) ((Below.kept hb3).mono (fun k hk e => absurd hk (Nat.not_lt.2 e))) ho3 (fun k e => .inl (hnew k e))
            have hl1 : P < (R'.files.set P ⟨R'.files[P].name, R'.files[P].bytes.take K, R'.files[P].dur⟩).length := by simpa using hP2
            have s2 := s1.is.setD P hl1 K
            have e : r.2 = { R' with files := (R'.files.set P ⟨R'.files[P].name, R'.files[P].bytes.take K, R'.files[P].dur⟩).set P ⟨(R'.files.set P ⟨R'.files[P].name, R'.files[P].bytes.take K, R'.files[P].dur⟩)[P].name, (R'.files.set P ⟨R'.files[P].name, R'.files[P].bytes.take K, R'.files[P].dur⟩)[P].bytes, K⟩ } := by
              rw [HR.out]
              have hup : updF R.files n (cutF (K : Int).toNat) = R'.files.set P ⟨R'.files[P].name, R'.files[P].bytes.take K, K⟩ := by
                unfold updF
                rw [← HPP.out, ← HWF.out, List.getElem?_eq_getElem hP2]
                simp [cutF]
              rw [hup]
              simp
            rw [e]
            exact ⟨_, _, ht2.trans (s1.trans s2)⟩
          · obtain ⟨g', c', u', e0, _, _, hu', _, b1, b2, _⟩ := h3.file P hP2
            simp only [Value.slice.injEq, Option.some.injEq, Addr.mk.injEq] at e0
            obtain ⟨⟨rfl, _⟩, _, rfl⟩ := e0
            have : u' = .slice x L y := by
              have := HU.out
              rw [hu'] at this
              exact Option.some.inj this
            rw [this] at b1
            have hg2 : ∃ cur, w3.heap[g]? = some (.cells cur 38 (0, 0)) := by
              obtain ⟨_, ⟨e, _⟩ | ⟨g', cap, cur, e, _, h3, _⟩⟩ := h3.img.own
              · cases e
              · simp only [Value.slice.injEq, Option.some.injEq, Addr.mk.injEq] at e
                obtain ⟨⟨rfl, _⟩, _⟩ := e
                exact ⟨cur, h3⟩
            obtain ⟨cur, hg2⟩ := hg2
            refine ⟨b1, ⟨_, b2⟩, frozen_of_row w3 g _ _ _ hg2, frozen_of_row w3 g _ _ _ hg2, lt_of_block hg2, lt_of_block h3.row, ?_, R'.files[P].dur, ?_⟩
            · rw [World.cell?_setCell_other (a := ⟨g, P * 3 + 1, none⟩) (b := ⟨p, 1, none⟩) (h := fun e => (rfoot_ne h3.nd).1 (congrArg Addr.block e))]
              exact h3.cells.2.1
            · rw [World.cell?_setCell_other (a := ⟨g, P * 3 + 1, none⟩) (b := ⟨g, P * 3 + 2, none⟩) (h := fun e => by have := congrArg Addr.off e; simp at this)]
              exact b2
        have HR1 : Hid (r.1 = 0) := by show _ = _; rw [HR.out]; rfl
        have c1' : w2.cell? ⟨p, 1, none⟩ = some (.slice (some ⟨g, 0, none⟩) FL c) := h2.cells.2.1
        have hl2 := lt_of_block h2.row
        have hlg2 : g < w2.heap.size := h2.lt (mem_rfoot_fv rfl)
        have a1' : w2.cell? ⟨g, P * 3 + 1, none⟩ = some (.slice x L y) := by
          obtain ⟨g', c', u', e0, _, _, hu', _, b1, b2, _⟩ := h2.file P hP2
          simp only [Value.slice.injEq, Option.some.injEq, Addr.mk.injEq] at e0
          obtain ⟨⟨rfl, _⟩, _, rfl⟩ := e0
          have : u' = .slice x L y := by
            have := HU.out
            rw [hu'] at this
            exact Option.some.inj this
          rw [this] at b1
          exact b1
        clear h2 ht2 hP2 hKb hbd HR HW HF HH HU HP HPP HWF HLL HFL
        go_upto_region 8 with fail
        go_region_with (go_at_call 28; refine Calls.mono HC.out ?_; rintro e w3 ⟨x', y', rfl, HFIN, d1, d2, ⟨du, d3⟩, f1, f2, l1, l2, g1, du', g2⟩)
        all_goals
          go_wp2_with fail
          go_ret
          exact ⟨by rw [HR1.out]; rfl, HFIN.out⟩
    · rw [if_neg hk] at hr'
      unfold RD.act at hr'
      rw [if_neg (by decide)] at hr'
      have HR : Hid _ := hr'
      clear hr'
      by_cases hk0 : k < 0
      · have hb1 : decide (k < 0) = true := decide_eq_true hk0
        go_enter Tryz.func73, Tryz.ntmps73
        go_wp2_with fail
        refine Calls.mono HF.out ?_
        rintro e w1 ⟨rfl, hw1⟩
        subst w1
        go_wp2_with fail
        go_ret
        exact ⟨by rw [HR.out]; rfl, _, _, by rw [HR.out]; exact RdTo.refl HH.out.1⟩
      · have hb1 : decide (k < 0) = false := decide_eq_false hk0
        have hb2 : decide (k > (L : Int)) = true := decide_eq_true (by omega)
        go_enter Tryz.func73, Tryz.ntmps73
        go_wp2_with fail
        refine Calls.mono HF.out ?_
        rintro e w1 ⟨rfl, hw1⟩
        subst w1
        go_wp2_with fail
        go_ret
        exact ⟨by rw [HR.out]; rfl, _, _, by rw [HR.out]; exact RdTo.refl HH.out.1⟩
  · have hec : R.errC n k = R.errO n := by unfold RD.errC; rw [if_neg he]
    rw [if_neg he] at hF
    rw [hec] at hr
    unfold RD.act at hr
    rw [if_neg he] at hr
    have HR : Hid _ := hr
    have HF : Hid _ := hF
    obtain ⟨E, hE⟩ : ∃ E, E = R.errO n := ⟨_, rfl⟩
    rw [← hE] at HF he HR
    have hb : (E != 0) = true := by simpa using he
    clear hF hr he hE hec
    go_enter Tryz.func73, Tryz.ntmps73
    go_wp2_with fail
    refine Calls.mono HF.out ?_
    rintro e w1 ⟨rfl, hw1⟩
    subst w1
    go_wp2_with fail
    go_ret
    exact ⟨by rw [HR.out]; rfl, _, _, by rw [HR.out]; exact RdTo.refl HH.out.1⟩
end Go.Proofs.YtdhnbgeijfgfaaaGreatDoor
