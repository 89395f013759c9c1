/- apartBytes of the statements: lists of bytes with no room in common, marked and grown, hold what was written into them. -/
import Derived.Test.YtiakjeomedijkaaGreatDoorGrowJ
import Derived.Deep.CutRange
import Derived.Test.YtiakjeomedijkaaGreatDoorShelfCJ
import Derived.Test.YtiakjeomedijkaaGreatDoorWriterJ
import Derived.Test.YtiakjeomedijkaaGreatDoorWrTJ
namespace Go.Proofs.YtiakjeomedijkaaGreatDoor
open Go.RowKit
set_option maxRecDepth 8000

theorem Turned.drewN {a w : World} {S : Nat → Nat → Prop} (h : Turned a w S) (n : Nat) : Turned a (w.drewN n) S := h.new ((Kept.refl _ _).drewN n)

theorem Pc.Has.drewN {w : World} {p : Pc} {xs : List Value} (h : p.Has w xs) (n : Nat) : p.Has (w.drewN n) xs := h.kept ((Kept.refl _ _).drewN n)

/-- What stays of a marked list when another one is written over. -/
theorem has_apart {w w' : World} {E : TypeId} {ps : List Pc} {i j : Nat} {xs : List Value} (hap : ApartPcs ps) (hi : i < ps.length) (hj : j < ps.length) (hne : j ≠ i) (hl : Lies w E ps[j]) (h : ps[j].Has w xs) (ht : Turned w w' ps[i].foot) : ps[j].Has w' xs :=
  h.turned ht (fun k x hf => .inr fun hs => hap j i hj hi hne k x hf hs) hl.le

theorem has_spares {w w' : World} {ps : List Pc} {i : Nat} {xs : List Value} (hap : ApartPcs ps) (hi : i < ps.length) (hle : ps[i].n ≤ ps[i].cap) (h : ps[i].Has w xs) (ht : Turned w w' (spares ps)) : ps[i].Has w' xs := by
  refine h.turned ht (fun x y hf => ?_) hle
  by_cases hsp : ps[i].spare x y
  · exact .inl hsp
  · refine .inr fun ⟨p, hp, hs⟩ => ?_
    obtain ⟨j, hj, e⟩ := List.getElem_of_mem hp
    by_cases ejk : j = i
    · subst ejk; rw [e] at hsp; exact hsp hs
    · exact hap i j hi hj (fun e => ejk e.symm) x y hf (by rw [e]; exact Pc.spare_foot hs)

theorem fill_step {w2 wr : World} {E : TypeId} {pb po pn pc t : Nat} {cs : Array Value} {y : Value} (hT : Turned w2 wr (⟨some ⟨pb, po, none⟩, pn, pc⟩ : Pc).foot) (hH : (⟨some ⟨pb, po, none⟩, t, pc⟩ : Pc).Has wr (List.replicate t y)) (hr : wr.heap[pb]? = some (.cells cs E (0, 0))) (hsz : po + pc ≤ cs.size) (ht : t < pc) :
    Turned w2 (wr.setCell ⟨pb, po + t, none⟩ y).drew (⟨some ⟨pb, po, none⟩, pn, pc⟩ : Pc).foot ∧ (⟨some ⟨pb, po, none⟩, t + 1, pc⟩ : Pc).Has (wr.setCell ⟨pb, po + t, none⟩ y).drew (List.replicate (t + 1) y) := by
  have hl : (List.replicate t y).length = t := by simp
  refine ⟨(hT.setCell y (fun _ => ⟨po, rfl, by omega, ?_⟩)).drewN 1, ?_⟩
  · show po + t < po + pc; omega
  · have h1 : (⟨some ⟨pb, po, none⟩, (List.replicate t y).length, pc⟩ : Pc).Has wr (List.replicate t y) := by rw [hl]; exact hH
    have h2 := has_more (y := y) h1 rfl hr (by rw [hl]; omega)
    rw [hl, ← List.replicate_succ'] at h2
    have h3 := h2.drewN 1
    rw [List.length_replicate] at h3
    exact h3

theorem list_cell {w wr : World} {E T : TypeId} {ps : List Pc} {S : Nat → Nat → Prop} {b off i : Nat} (hT : ∃ cs fr, w.heap[b]? = some (.cells cs T fr)) (h4 : ∀ i (h : i < ps.length), w.cell? ⟨b, off + i, none⟩ = some ps[i].val) (ht : Turned w wr S) (hS : ∀ k x, S k x → feet ps k x) (hl : ∀ p ∈ ps, Lies w E p) (hTE : T ≠ E) (hi : i < ps.length) : wr.cell? ⟨b, off + i, none⟩ = some ps[i].val := by
  refine ht.cell (h4 i hi) (fun hs => ?_)
  obtain ⟨p, hp, hf⟩ := hS _ _ hs
  obtain ⟨cs, fr, hr⟩ := hT
  obtain ⟨_, cs2, hr2⟩ := (hl p hp).foot_lt hf
  rw [hr] at hr2
  simp at hr2
  exact hTE hr2.2.1

set_option maxRecDepth 8000 in
set_option maxHeartbeats 2000000 in
theorem apartBytes_any (v : Value) (ps : List Pc) (w : World) (hv : SeesPcs w 26 v ps) (hl : ∀ p ∈ ps, Lies w 5 p) (hap : ApartPcs ps) (hn : ps.length ≤ 600) (hb : ∀ p ∈ ps, p.n ≤ 70000000000000) :
    Calls Tryz.prog 20 #[v] w fun e w' => e = .returned (.bool true) ∧ Turned w w' (feet ps) := by
  have HV : Hid (SeesPcs w 26 v ps) := hv
  obtain ⟨ao, cap, rfl, hlc, hcm, h3⟩ := hv
  unfold maxLen at hcm
  have HL : Hid ((∀ p ∈ ps, Lies w 5 p) ∧ ApartPcs ps ∧ (∀ p ∈ ps, p.n ≤ 70000000000000)) := ⟨hl, hap, hb⟩
  have H3 : Hid (ps = [] ∨ ∃ b off, ao = some ⟨b, off, none⟩ ∧ (∃ cs fr, w.heap[b]? = some (.cells cs 26 fr)) ∧ ∀ i (h : i < ps.length), w.cell? ⟨b, off + i, none⟩ = some ps[i].val) := h3
  clear hl hap hb h3
  go_enter Tryz.func20, Tryz.ntmps20
  go_wp2
  go_loopw [3] (fun dv wr => ∃ d : Nat, dv = .int .i64 d ∧ (d = 1 ∨ d = 100 ∨ d = 10000) ∧ Turned w wr (feet ps)) (fun dv _ => 20000 - (intOf dv).toNat)
  case atStart => exact ⟨1, rfl, .inl rfl, Turned.refl _ _⟩
  case round =>
    obtain ⟨d, rfl, hd, hT⟩ := hrel
    rename World => wo
    have HT : Hid (Turned w wo (feet ps)) := hT
    clear hT
    by_cases hgo : d = 1 ∨ d ≤ ps.length
    · have hd1 : 1 ≤ d ∧ d ≤ 100 := by omega
      go_upto_region 2 with fail
      go_cut [14] from 7 to 52 (fun s wx => s = .bool true ∧ wx = wo)
      case first =>
        by_cases e : d = 1
        · subst e
          go_wp2
          go_meet
          exact ⟨rfl, rfl⟩
        · have e1 : ((d : Int) == 1) = false := by simp; omega
          have e2 : d ≤ ps.length := by omega
          go_wp2
          go_meet
          exact ⟨rfl, rfl⟩
      case rest =>
        obtain ⟨rfl, rfl⟩ := hcut
        have hd0 : ¬ d = 0 := by omega
        go_wp2
        go_loopw [4] (fun iv wr => ∃ i : Nat, iv = .int .i64 i ∧ i ≤ ps.length ∧ Turned wc wr (feet ps) ∧ ∀ j (_ : j < i) (hp : j < ps.length), ps[j].Has wr (List.replicate ps[j].n (mkB d j))) (fun iv _ => ps.length - (intOf iv).toNat)
        case atStart => exact ⟨0, rfl, Nat.zero_le _, Turned.refl _ _, fun j hj => by omega⟩
        case round =>
          obtain ⟨i, rfl, hil, hTi, hHi⟩ := hrel
          rename World => w2
          have HI : Hid (Turned wc w2 (feet ps) ∧ ∀ j (_ : j < i) (hp : j < ps.length), ps[j].Has w2 (List.replicate ps[j].n (mkB d j))) := ⟨hTi, hHi⟩
          clear hTi hHi
          by_cases hlt : i < ps.length
          · obtain ⟨b, off, rfl, hTb, h4⟩ : ∃ b off, ao = some ⟨b, off, none⟩ ∧ (∃ cs fr, w.heap[b]? = some (.cells cs 26 fr)) ∧ ∀ i (h : i < ps.length), w.cell? ⟨b, off + i, none⟩ = some ps[i].val := by
              rcases H3.out with h3 | h3
              · subst h3; simp at hlt
              · exact h3
            have hT2 : Turned w w2 (feet ps) := HT.out.trans HI.out.1 (fun _ _ _ h => h)
            have hcell : ∀ wr S, Turned w2 wr S → (∀ k x, S k x → feet ps k x) → wr.cell? ⟨b, off + i, none⟩ = some (.slice ps[i].ao ps[i].n ps[i].cap) := fun wr S ht hS => list_cell hTb h4 (hT2.trans (ht.mono (fun k x _ hs => hS k x hs)) (fun _ _ _ h => h)) (fun _ _ h => h) HL.out.1 (by decide) hlt
            have hlies : Lies w2 5 ps[i] := (HL.out.1 ps[i] (List.getElem_mem hlt)).turned hT2
            have hbn := HL.out.2.2 ps[i] (List.getElem_mem hlt)
            have hfe : ∀ k x, ps[i].foot k x → feet ps k x := fun k x h => ⟨ps[i], List.getElem_mem hlt, h⟩
            have HC : Hid (∀ wr, Turned w2 wr ps[i].foot → wr.cell? ⟨b, off + i, none⟩ = some (.slice ps[i].ao ps[i].n ps[i].cap)) := fun wr ht => hcell wr _ ht hfe
            have HA : Hid (Lies w2 5 ps[i]) := hlies
            clear hcell hlies hT2 hTb h4 hfe
            generalize hpi : ps[i] = p at *
            obtain ⟨pa, pn, pc⟩ := p
            simp only at HC HA hbn
            have HP : Hid (ps[i] = ⟨pa, pn, pc⟩) := hpi
            clear hpi
            go_wp2
            go_loopw [5] (fun kv wr => ∃ t : Nat, kv = .int .i64 t ∧ t ≤ pn ∧ Turned w2 wr (⟨pa, pn, pc⟩ : Pc).foot ∧ (⟨pa, t, pc⟩ : Pc).Has wr (List.replicate t (mkB d i))) (fun kv _ => pn - (intOf kv).toNat)
            case atStart => exact ⟨0, rfl, Nat.zero_le _, Turned.refl _ _, rfl, .inl rfl⟩
            case round =>
              obtain ⟨t, rfl, htn, hTt, hHt⟩ := hrel
              have hc := HC.out wr hTt
              have HX : Hid (Turned w2 wr (⟨pa, pn, pc⟩ : Pc).foot ∧ (⟨pa, t, pc⟩ : Pc).Has wr (List.replicate t (mkB d i))) := ⟨hTt, hHt⟩
              clear hTt hHt
              by_cases hlt2 : t < pn
              · have hle := HA.out.le
                simp only at hle
                obtain ⟨pb, po, cs, ha, hr, hsz⟩ := (HA.out.turned HX.out.1).at' (by show 0 < pc; omega)
                simp only at ha hsz
                subst ha
                have hcc : wr.cell? ⟨pb, po + t, none⟩ = some cs[po + t] := by rw [cell_of_row wr pb _ cs _ _ hr]; exact Array.getElem?_eq_getElem (by omega)
                have hfz : wr.frozen? ⟨pb, po + t, none⟩ = false := frozen_of_row wr pb _ cs _ hr
                have HR : Hid (wr.heap[pb]? = some (.cells cs 5 (0, 0)) ∧ po + pc ≤ cs.size) := ⟨hr, hsz⟩
                clear hr
                generalize cs[po + t] = old at hcc
                go_wp2
                go_region
                all_goals go_wp2
                all_goals go_roundw
                case rel =>
                  have hs := fill_step (y := mkB d i) HX.out.1 HX.out.2 HR.out.1 HR.out.2 (by omega)
                  exact ⟨t + 1, by go_num, by omega, hs.1, hs.2⟩
                case measure => simp [intOf]; omega
              · obtain rfl : t = pn := by omega
                have HN : Hid (Turned wc wr (feet ps) ∧ ∀ j (_ : j < i + 1) (hp : j < ps.length), ps[j].Has wr (List.replicate ps[j].n (mkB d j))) := by
                  have hTw : Turned w2 wr ps[i].foot := by rw [HP.out]; exact HX.out.1
                  refine ⟨HI.out.1.trans hTw (fun k x _ h => ⟨ps[i], List.getElem_mem hlt, h⟩), fun j hj hp => ?_⟩
                  by_cases e : j = i
                  · subst e
                    rw [HP.out]; exact HX.out.2
                  · exact has_apart HL.out.2.1 hlt hp e (((HL.out.1 _ (List.getElem_mem hp)).turned HT.out).turned HI.out.1) (HI.out.2 j (by omega) hp) hTw
                clear HX HC HA
                go_wp2
                go_roundw
                case rel => exact ⟨i + 1, by go_num, by omega, HN.out.1, HN.out.2⟩
                case measure => simp [intOf]; omega
          · obtain rfl : i = ps.length := by omega
            have hT2 : Turned w w2 (feet ps) := HT.out.trans HI.out.1 (fun _ _ _ h => h)
            have HG : Hid (SeesPcs w2 26 (.slice ao ps.length cap) ps ∧ (∀ p ∈ ps, Lies w2 5 p) ∧ Turned w w2 (feet ps)) := ⟨HV.out.turned hT2 (fun _ _ h => h) HL.out.1 (by decide), fun p hp => (HL.out.1 p hp).turned hT2, hT2⟩
            clear hT2
            go_wp2_with fail
            refine (grownBytes_any _ ps d 1 _ HG.out.1 HG.out.2.1 HL.out.2.1 hd1.1 (by omega) (by omega) hn HL.out.2.2 (fun j h => HI.out.2 j h h)).mono ?_
            rintro e w3 ⟨rfl, hT3⟩
            have HG3 : Hid (SeesPcs w3 26 (.slice ao ps.length cap) ps ∧ (∀ p ∈ ps, Lies w3 5 p) ∧ Turned w2 w3 (spares ps)) := ⟨HG.out.1.turned hT3 (fun k x ⟨p, hp, hs⟩ => ⟨p, hp, Pc.spare_foot hs⟩) HG.out.2.1 (by decide), fun p hp => (HG.out.2.1 p hp).turned hT3, hT3⟩
            clear hT3
            go_wp2_with fail
            refine (grownBytes_any _ ps d 64 _ HG3.out.1 HG3.out.2.1 HL.out.2.1 hd1.1 (by omega) (by omega) hn HL.out.2.2 (fun j h => has_spares HL.out.2.1 h (HG.out.2.1 _ (List.getElem_mem h)).le (HI.out.2 j h h) HG3.out.2.2)).mono ?_
            rintro e w4 ⟨rfl, hT4⟩
            have HE : Hid (Turned w w4 (feet ps)) := (HG.out.2.2.trans HG3.out.2.2 (fun k x _ ⟨p, hp, hs⟩ => ⟨p, hp, Pc.spare_foot hs⟩)).trans hT4 (fun k x _ ⟨p, hp, hs⟩ => ⟨p, hp, Pc.spare_foot hs⟩)
            clear hT4
            go_wp2
            go_roundw
            case rel => exact ⟨d * 100, by go_num, by omega, HE.out⟩
            case measure => simp [intOf]; omega
    · have e1 : ((d : Int) == 1) = false := by simp; omega
      have e2 : ¬ d ≤ ps.length := by omega
      go_wp2
      go_ret
      exact ⟨rfl, HT.out⟩
end Go.Proofs.YtiakjeomedijkaaGreatDoor

/-
  strconv.Itoa stands in the other shelf's text.
-/
namespace Go.Proofs
end Go.Proofs

/- What mark of lagoonref00 answers; nothing that was there before is changed. -/
namespace Go.Proofs.YtiakjeomedijkaaGreatDoor
open Go.RowKit
set_option maxRecDepth 8000

/-- The table that strconv's numerals read. -/
abbrev Tab (w : World) : Prop := Lib.TabIs Tryz.prog w "internal/strconv.uint64pow10" .u64 Lib.pow10Tab

theorem tab_global : Tryz.prog.globalNamed "internal/strconv.uint64pow10" = some 0 := by kernel_rfl

theorem Tab.below {B : Nat} {w w' : World} (h : Tab w) (hb : Below B w w') (hB : 0 < B) : Tab w' := var?_below hb tab_global hB h

theorem decDigits_len (u : Nat) : (Lib.decDigits u).length ≤ u / 10 + 2 := by
  induction u using Nat.strongRecOn with
  | _ u ih =>
    rw [Lib.decDigits]
    by_cases h : u < 10
    · rw [dif_pos h]; simp
    · rw [dif_neg h]
      have := ih (u / 10) (by omega)
      simp
      omega

theorem itoa_len (n : Int) (h0 : -9223372036854775808 ≤ n) (h1 : n ≤ 9223372036854775807) : (⟨(Lib.itoa n).toArray⟩ : ByteArray).size ≤ 9000000000000000000 := by
  show (Lib.itoa n).toArray.size ≤ _
  rw [List.size_toArray]
  unfold Lib.itoa
  by_cases h : n < 0
  · rw [if_pos h]
    have := decDigits_len n.natAbs
    simp
    omega
  · rw [if_neg h]
    have := decDigits_len n.toNat
    omega

/-- The text that mark makes of a number. -/
def markS (n : Int) : ByteArray := (⟨#[33]⟩ : ByteArray) ++ (⟨(Lib.itoa n).toArray⟩ : ByteArray)

set_option maxHeartbeats 400000 in
theorem mark_is (n : Int) (w : World) (h0 : -9223372036854775808 ≤ n) (h1 : n ≤ 9223372036854775807) (ht : Tab w) :
    Calls Tryz.prog 65 #[.int .i64 n] w fun e w' => e = .returned (.string (markS n)) ∧ Below w.heap.size w w' := by
  have HT : Hid (Tab w) := ht
  clear ht
  have hs := fun w => run_string_add_sum (P := Tryz.prog) w (⟨#[33]⟩ : ByteArray) (⟨(Lib.itoa n).toArray⟩ : ByteArray) (by have := itoa_len n h0 h1; show 1 + _ ≤ _; omega)
  go_enter Tryz.func65, Tryz.ntmps65
  go_wp2_with fail
  refine (Tryz.strconv_Itoa n h0 h1 _ HT.out).mono ?_
  rintro e w1 ⟨rfl, k, os, hw1⟩
  have HB : Hid (Below w.heap.size w w1) := by rw [hw1]; exact ⟨rfl, rfl, rfl, by simp [Sort.grow], fun i hi => by show (w.heap ++ os)[i]? = _; rw [Array.getElem?_append_left hi]⟩
  clear hw1
  go_wp2
  go_ret
  exact ⟨rfl, HB.out⟩


theorem markS_len (n : Int) (h0 : -2001000 ≤ n) (h1 : n ≤ 0) : (markS n).size ≤ 210000 := by
  unfold markS
  rw [ByteArray.size_append]
  show 1 + (Lib.itoa n).toArray.size ≤ _
  rw [List.size_toArray]
  unfold Lib.itoa
  by_cases h : n < 0
  · rw [if_pos h]
    have := decDigits_len n.natAbs
    simp
    omega
  · rw [if_neg h]
    have := decDigits_len n.toNat
    omega

end Go.Proofs.YtiakjeomedijkaaGreatDoor

/- Lists of texts of bytes that are marked: what a mark is in memory; no Go function is walked here. -/
namespace Go.Proofs.YtiakjeomedijkaaGreatDoor
open Go.RowKit
set_option maxRecDepth 8000

/-- A text of bytes in a row of bytes. -/
def SeesB (w : World) (u : Value) (s : ByteArray) : Prop := Sees w u (txt s) ∧ ∀ k, u.ownBlock = some k → ∃ cs fr, w.heap[k]? = some (.cells cs 5 fr)

theorem SeesB.kept {w w' : World} {u : Value} {s : ByteArray} (h : SeesB w u s) (hk : Kept w w' (fun _ => False)) : SeesB w' u s :=
  ⟨h.1.kept hk (fun _ _ h => h), fun k hu => by
    obtain ⟨cs, fr, hr⟩ := h.2 k hu
    exact ⟨cs, fr, hk.heap hr (fun h => h)⟩⟩

theorem SeesB.turned {w w' : World} {u : Value} {s : ByteArray} {S : Nat → Nat → Prop} {E : TypeId} (h : SeesB w u s) (ht : Turned w w' S) (hS : ∀ k x, S k x → ∃ cs fr, w.heap[k]? = some (.cells cs E fr)) (hE : E ≠ 5) : SeesB w' u s := by
  have hn : ∀ k, u.ownBlock = some k → ∀ x, ¬ S k x := by
    intro k hu x hs
    obtain ⟨cs, fr, hr⟩ := h.2 k hu
    obtain ⟨cs', fr', hr'⟩ := hS k x hs
    rw [hr] at hr'
    simp at hr'
    exact hE hr'.2.1.symm
  refine ⟨?_, fun k hu => ?_⟩
  · obtain ⟨ao, cap, rfl, h1, h2, h0, h3⟩ := h.1
    refine ⟨ao, cap, rfl, h1, h2, h0, ?_⟩
    rcases h3 with h3 | ⟨b, off, rfl, h3⟩
    · exact .inl h3
    · exact .inr ⟨b, off, rfl, fun i hi => ht.cell (h3 i hi) (hn b rfl _)⟩
  · obtain ⟨cs, fr, hr⟩ := h.2 k hu
    rw [ht.same k (lt_of_block hr) (hn k hu)]
    exact ⟨cs, fr, hr⟩

theorem SeesB.typed {w w' : World} {u : Value} {s : ByteArray} {E : TypeId} (h : SeesB w u s) (hk : Kept w w' (OfType w E)) (hE : E ≠ 5) : SeesB w' u s := by
  have hn : ∀ k, u.ownBlock = some k → ¬ OfType w E k := by
    rintro k hu ⟨cs', fr', hr'⟩
    obtain ⟨cs, fr, hr⟩ := h.2 k hu
    rw [hr] at hr'
    simp at hr'
    exact hE hr'.2.1.symm
  refine ⟨h.1.kept hk hn, fun k hu => ?_⟩
  obtain ⟨cs, fr, hr⟩ := h.2 k hu
  exact ⟨cs, fr, hk.heap hr (hn k hu)⟩

theorem seesB_text (w : World) (s : ByteArray) (hs : s.size ≤ maxLen) (mk : Nat × Nat) :
    SeesB (w.drew.alloc (.cells (bytesRow s (grownCap w s.size 0 5)) 5 mk)) (.slice (some ⟨w.heap.size, 0, none⟩) s.size (grownCap w s.size 0 5)) s :=
  ⟨sees_text w s hs mk, fun k hk => by
    simp [Value.ownBlock] at hk
    subst hk
    exact ⟨_, _, heap_alloc_new w.drew _⟩⟩

theorem str_txt' (s : ByteArray) : strOfNums (txt s) = s := by
  unfold strOfNums txt
  rw [List.map_map]
  have : ((fun n : Int => UInt8.ofNat n.toNat) ∘ fun b : UInt8 => (b.toNat : Int)) = id := by
    funext b
    simp
  rw [this]
  simp

theorem run_textB {w : World} {u : Value} {s : ByteArray} (h : SeesB w u s) : (convert 26 9 u).run Tryz.prog w = .ok (.string s) w := by
  have := run_text w u (txt s) h.1
  rw [str_txt'] at this
  exact this

end Go.Proofs.YtiakjeomedijkaaGreatDoor
