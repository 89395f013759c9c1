/- apartBytes of the statements: lists of bytes with no room in common, marked and grown, hold what was written into them. -/
import Derived.Test.YtoeialngbbfoeaaGreatDoorGrowJ
import Derived.Deep.CutRange
namespace Go.Proofs.YtoeialngbbfoeaaGreatDoor
open Go.RowKit
set_option maxRecDepth 8000

theorem Turned.drewN {a w : World} {S : Nat → Nat → Prop} (h : Turned a w S) (n : Nat) : Turned a (w.drewN n) S := h.new ((Kept.refl _ _).drewN n)

theorem Pc.Has.drewN {w : World} {p : Pc} {xs : List Value} (h : p.Has w xs) (n : Nat) : p.Has (w.drewN n) xs := h.kept ((Kept.refl _ _).drewN n)

/-- What stays of a marked list when another one is written over. -/
theorem has_apart {w w' : World} {E : TypeId} {ps : List Pc} {i j : Nat} {xs : List Value} (hap : ApartPcs ps) (hi : i < ps.length) (hj : j < ps.length) (hne : j ≠ i) (hl : Lies w E ps[j]) (h : ps[j].Has w xs) (ht : Turned w w' ps[i].foot) : ps[j].Has w' xs :=
  h.turned ht (fun k x hf => .inr fun hs => hap j i hj hi hne k x hf hs) hl.le

theorem has_spares {w w' : World} {ps : List Pc} {i : Nat} {xs : List Value} (hap : ApartPcs ps) (hi : i < ps.length) (hle : ps[i].n ≤ ps[i].cap) (h : ps[i].Has w xs) (ht : Turned w w' (spares ps)) : ps[i].Has w' xs := by
  refine h.turned ht (fun x y hf => ?_) hle
  by_cases hsp : ps[i].spare x y
  · exact .inl hsp
  · refine .inr fun ⟨p, hp, hs⟩ => ?_
    obtain ⟨j, hj, e⟩ := List.getElem_of_mem hp
    by_cases ejk : j = i
    · subst ejk; rw [e] at hsp; exact hsp hs
    · exact hap i j hi hj (fun e => ejk e.symm) x y hf (by rw [e]; exact Pc.spare_foot hs)

theorem fill_step {w2 wr : World} {E : TypeId} {pb po pn pc t : Nat} {cs : Array Value} {y : Value} (hT : Turned w2 wr (⟨some ⟨pb, po, none⟩, pn, pc⟩ : Pc).foot) (hH : (⟨some ⟨pb, po, none⟩, t, pc⟩ : Pc).Has wr (List.replicate t y)) (hr : wr.heap[pb]? = some (.cells cs E (0, 0))) (hsz : po + pc ≤ cs.size) (ht : t < pc) :
    Turned w2 (wr.setCell ⟨pb, po + t, none⟩ y).drew (⟨some ⟨pb, po, none⟩, pn, pc⟩ : Pc).foot ∧ (⟨some ⟨pb, po, none⟩, t + 1, pc⟩ : Pc).Has (wr.setCell ⟨pb, po + t, none⟩ y).drew (List.replicate (t + 1) y) := by
  have hl : (List.replicate t y).length = t := by simp
  refine ⟨(hT.setCell y (fun _ => ⟨po, rfl, by omega, ?_⟩)).drewN 1, ?_⟩
  · show po + t < po + pc; omega
  · have h1 : (⟨some ⟨pb, po, none⟩, (List.replicate t y).length, pc⟩ : Pc).Has wr (List.replicate t y) := by rw [hl]; exact hH
    have h2 := has_more (y := y) h1 rfl hr (by rw [hl]; omega)
    rw [hl, ← List.replicate_succ'] at h2
    have h3 := h2.drewN 1
    rw [List.length_replicate] at h3
    exact h3

theorem list_cell {w wr : World} {E T : TypeId} {ps : List Pc} {S : Nat → Nat → Prop} {b off i : Nat} (hT : ∃ cs fr, w.heap[b]? = some (.cells cs T fr)) (h4 : ∀ i (h : i < ps.length), w.cell? ⟨b, off + i, none⟩ = some ps[i].val) (ht : Turned w wr S) (hS : ∀ k x, S k x → feet ps k x) (hl : ∀ p ∈ ps, Lies w E p) (hTE : T ≠ E) (hi : i < ps.length) : wr.cell? ⟨b, off + i, none⟩ = some ps[i].val := by
  refine ht.cell (h4 i hi) (fun hs => ?_)
  obtain ⟨p, hp, hf⟩ := hS _ _ hs
  obtain ⟨cs, fr, hr⟩ := hT
  obtain ⟨_, cs2, hr2⟩ := (hl p hp).foot_lt hf
  rw [hr] at hr2
  simp at hr2
  exact hTE hr2.2.1

set_option maxRecDepth 8000 in
set_option maxHeartbeats 2000000 in
theorem apartBytes_any (v : Value) (ps : List Pc) (w : World) (hv : SeesPcs w 28 v ps) (hl : ∀ p ∈ ps, Lies w 5 p) (hap : ApartPcs ps) (hn : ps.length ≤ 600) (hb : ∀ p ∈ ps, p.n ≤ 70000000000000) :
    Calls Tryz.prog 30 #[v] w fun e w' => e = .returned (.bool true) ∧ Turned w w' (feet ps) := by
  have HV : Hid (SeesPcs w 28 v ps) := hv
  obtain ⟨ao, cap, rfl, hlc, hcm, h3⟩ := hv
  unfold maxLen at hcm
  have HL : Hid ((∀ p ∈ ps, Lies w 5 p) ∧ ApartPcs ps ∧ (∀ p ∈ ps, p.n ≤ 70000000000000)) := ⟨hl, hap, hb⟩
  have H3 : Hid (ps = [] ∨ ∃ b off, ao = some ⟨b, off, none⟩ ∧ (∃ cs fr, w.heap[b]? = some (.cells cs 28 fr)) ∧ ∀ i (h : i < ps.length), w.cell? ⟨b, off + i, none⟩ = some ps[i].val) := h3
  clear hl hap hb h3
  go_enter Tryz.func30, Tryz.ntmps30
  go_wp2
  go_loopw [3] (fun dv wr => ∃ d : Nat, dv = .int .i64 d ∧ (d = 1 ∨ d = 100 ∨ d = 10000) ∧ Turned w wr (feet ps)) (fun dv _ => 20000 - (intOf dv).toNat)
  case atStart => exact ⟨1, rfl, .inl rfl, Turned.refl _ _⟩
  case round =>
    obtain ⟨d, rfl, hd, hT⟩ := hrel
    rename World => wo
    have HT : Hid (Turned w wo (feet ps)) := hT
    clear hT
    by_cases hgo : d = 1 ∨ d ≤ ps.length
    · have hd1 : 1 ≤ d ∧ d ≤ 100 := by omega
      go_upto_region 2 with fail
      go_cut [14] from 7 to 52 (fun s wx => s = .bool true ∧ wx = wo)
      case first =>
        by_cases e : d = 1
        · subst e
          go_wp2
          go_meet
          exact ⟨rfl, rfl⟩
        · have e1 : ((d : Int) == 1) = false := by simp; omega
          have e2 : d ≤ ps.length := by omega
          go_wp2
          go_meet
          exact ⟨rfl, rfl⟩
      case rest =>
        obtain ⟨rfl, rfl⟩ := hcut
        have hd0 : ¬ d = 0 := by omega
        go_wp2
        go_loopw [4] (fun iv wr => ∃ i : Nat, iv = .int .i64 i ∧ i ≤ ps.length ∧ Turned wc wr (feet ps) ∧ ∀ j (_ : j < i) (hp : j < ps.length), ps[j].Has wr (List.replicate ps[j].n (mkB d j))) (fun iv _ => ps.length - (intOf iv).toNat)
        case atStart => exact ⟨0, rfl, Nat.zero_le _, Turned.refl _ _, fun j hj => by omega⟩
        case round =>
          obtain ⟨i, rfl, hil, hTi, hHi⟩ := hrel
          rename World => w2
          have HI : Hid (Turned wc w2 (feet ps) ∧ ∀ j (_ : j < i) (hp : j < ps.length), ps[j].Has w2 (List.replicate ps[j].n (mkB d j))) := ⟨hTi, hHi⟩
          clear hTi hHi
          by_cases hlt : i < ps.length
          · obtain ⟨b, off, rfl, hTb, h4⟩ : ∃ b off, ao = some ⟨b, off, none⟩ ∧ (∃ cs fr, w.heap[b]? = some (.cells cs 28 fr)) ∧ ∀ i (h : i < ps.length), w.cell? ⟨b, off + i, none⟩ = some ps[i].val := by
              rcases H3.out with h3 | h3
              · subst h3; simp at hlt
              · exact h3
            have hT2 : Turned w w2 (feet ps) := HT.out.trans HI.out.1 (fun _ _ _ h => h)
            have hcell : ∀ wr S, Turned w2 wr S → (∀ k x, S k x → feet ps k x) → wr.cell? ⟨b, off + i, none⟩ = some (.slice ps[i].ao ps[i].n ps[i].cap) := fun wr S ht hS => list_cell hTb h4 (hT2.trans (ht.mono (fun k x _ hs => hS k x hs)) (fun _ _ _ h => h)) (fun _ _ h => h) HL.out.1 (by decide) hlt
            have hlies : Lies w2 5 ps[i] := (HL.out.1 ps[i] (List.getElem_mem hlt)).turned hT2
            have hbn := HL.out.2.2 ps[i] (List.getElem_mem hlt)
            have hfe : ∀ k x, ps[i].foot k x → feet ps k x := fun k x h => ⟨ps[i], List.getElem_mem hlt, h⟩
            have HC : Hid (∀ wr, Turned w2 wr ps[i].foot → wr.cell? ⟨b, off + i, none⟩ = some (.slice ps[i].ao ps[i].n ps[i].cap)) := fun wr ht => hcell wr _ ht hfe
            have HA : Hid (Lies w2 5 ps[i]) := hlies
            clear hcell hlies hT2 hTb h4 hfe
            generalize hpi : ps[i] = p at *
            obtain ⟨pa, pn, pc⟩ := p
            simp only at HC HA hbn
            have HP : Hid (ps[i] = ⟨pa, pn, pc⟩) := hpi
            clear hpi
            go_wp2
            go_loopw [5] (fun kv wr => ∃ t : Nat, kv = .int .i64 t ∧ t ≤ pn ∧ Turned w2 wr (⟨pa, pn, pc⟩ : Pc).foot ∧ (⟨pa, t, pc⟩ : Pc).Has wr (List.replicate t (mkB d i))) (fun kv _ => pn - (intOf kv).toNat)
            case atStart => exact ⟨0, rfl, Nat.zero_le _, Turned.refl _ _, rfl, .inl rfl⟩
            case round =>
              obtain ⟨t, rfl, htn, hTt, hHt⟩ := hrel
              have hc := HC.out wr hTt
              have HX : Hid (Turned w2 wr (⟨pa, pn, pc⟩ : Pc).foot ∧ (⟨pa, t, pc⟩ : Pc).Has wr (List.replicate t (mkB d i))) := ⟨hTt, hHt⟩
              clear hTt hHt
              by_cases hlt2 : t < pn
              · have hle := HA.out.le
                simp only at hle
                obtain ⟨pb, po, cs, ha, hr, hsz⟩ := (HA.out.turned HX.out.1).at' (by show 0 < pc; omega)
                simp only at ha hsz
                subst ha
                have hcc : wr.cell? ⟨pb, po + t, none⟩ = some cs[po + t] := by rw [cell_of_row wr pb _ cs _ _ hr]; exact Array.getElem?_eq_getElem (by omega)
                have hfz : wr.frozen? ⟨pb, po + t, none⟩ = false := frozen_of_row wr pb _ cs _ hr
                have HR : Hid (wr.heap[pb]? = some (.cells cs 5 (0, 0)) ∧ po + pc ≤ cs.size) := ⟨hr, hsz⟩
                clear hr
                generalize cs[po + t] = old at hcc
                go_wp2
                go_region
                all_goals go_wp2
                all_goals go_roundw
                case rel =>
                  have hs := fill_step (y := mkB d i) HX.out.1 HX.out.2 HR.out.1 HR.out.2 (by omega)
                  exact ⟨t + 1, by go_num, by omega, hs.1, hs.2⟩
                case measure => simp [intOf]; omega
              · obtain rfl : t = pn := by omega
                have HN : Hid (Turned wc wr (feet ps) ∧ ∀ j (_ : j < i + 1) (hp : j < ps.length), ps[j].Has wr (List.replicate ps[j].n (mkB d j))) := by
                  have hTw : Turned w2 wr ps[i].foot := by rw [HP.out]; exact HX.out.1
                  refine ⟨HI.out.1.trans hTw (fun k x _ h => ⟨ps[i], List.getElem_mem hlt, h⟩), fun j hj hp => ?_⟩
                  by_cases e : j = i
                  · subst e
                    rw [HP.out]; exact HX.out.2
                  · exact has_apart HL.out.2.1 hlt hp e (((HL.out.1 _ (List.getElem_mem hp)).turned HT.out).turned HI.out.1) (HI.out.2 j (by omega) hp) hTw
                clear HX HC HA
                go_wp2
                go_roundw
                case rel => exact ⟨i + 1, by go_num, by omega, HN.out.1, HN.out.2⟩
                case measure => simp [intOf]; omega
          · obtain rfl : i = ps.length := by omega
            have hT2 : Turned w w2 (feet ps) := HT.out.trans HI.out.1 (fun _ _ _ h => h)
            have HG : Hid (SeesPcs w2 28 (.slice ao ps.length cap) ps ∧ (∀ p ∈ ps, Lies w2 5 p) ∧ Turned w w2 (feet ps)) := ⟨HV.out.turned hT2 (fun _ _ h => h) HL.out.1 (by decide), fun p hp => (HL.out.1 p hp).turned hT2, hT2⟩
            clear hT2
            go_wp2_with fail
            refine (grownBytes_any _ ps d 1 _ HG.out.1 HG.out.2.1 HL.out.2.1 hd1.1 (by omega) (by omega) hn HL.out.2.2 (fun j h => HI.out.2 j h h)).mono ?_
            rintro e w3 ⟨rfl, hT3⟩
            have HG3 : Hid (SeesPcs w3 28 (.slice ao ps.length cap) ps ∧ (∀ p ∈ ps, Lies w3 5 p) ∧ Turned w2 w3 (spares ps)) := ⟨HG.out.1.turned hT3 (fun k x ⟨p, hp, hs⟩ => ⟨p, hp, Pc.spare_foot hs⟩) HG.out.2.1 (by decide), fun p hp => (HG.out.2.1 p hp).turned hT3, hT3⟩
            clear hT3
            go_wp2_with fail
            refine (grownBytes_any _ ps d 64 _ HG3.out.1 HG3.out.2.1 HL.out.2.1 hd1.1 (by omega) (by omega) hn HL.out.2.2 (fun j h => has_spares HL.out.2.1 h (HG.out.2.1 _ (List.getElem_mem h)).le (HI.out.2 j h h) HG3.out.2.2)).mono ?_
            rintro e w4 ⟨rfl, hT4⟩
            have HE : Hid (Turned w w4 (feet ps)) := (HG.out.2.2.trans HG3.out.2.2 (fun k x _ ⟨p, hp, hs⟩ => ⟨p, hp, Pc.spare_foot hs⟩)).trans hT4 (fun k x _ ⟨p, hp, hs⟩ => ⟨p, hp, Pc.spare_foot hs⟩)
            clear hT4
            go_wp2
            go_roundw
            case rel => exact ⟨d * 100, by go_num, by omega, HE.out⟩
            case measure => simp [intOf]; omega
    · have e1 : ((d : Int) == 1) = false := by simp; omega
      have e2 : ¬ d ≤ ps.length := by omega
      go_wp2
      go_ret
      exact ⟨rfl, HT.out⟩
end Go.Proofs.YtoeialngbbfoeaaGreatDoor
