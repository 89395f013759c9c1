/- apartPieces of the statements, of one list of lists of bytes: marked and grown, it holds what was written into it. -/
import Derived.Test.YtbdokdhconhifaaGreatDoorGrowPJ
import Derived.Test.YtbdokdhconhifaaGreatDoorApartNilJ
namespace Go.Proofs.YtbdokdhconhifaaGreatDoor
open Go.RowKit
set_option maxRecDepth 8000

/-- Behind t rounds of the filling: marks in the first t cells. -/
def FillsP (w wr : World) (p : Pc) (t : Nat) : Prop := ∃ ys, ys.length = t ∧ Turned w wr p.foot ∧ (⟨p.ao, t, p.cap⟩ : Pc).Has wr ys ∧ Marks wr ys (markS (-1000000))

theorem footP_row {w wr : World} {p : Pc} {E : TypeId} {S : Nat → Nat → Prop} (hl : Lies w E p) (ht : Turned w wr S) : ∀ k x, p.foot k x → ∃ cs fr, wr.heap[k]? = some (.cells cs E fr) := by
  intro k x hs
  obtain ⟨_, cs, hr⟩ := hl.foot_lt hs
  obtain ⟨cs', hr', _, _⟩ := ht.row k cs E (0, 0) hr
  exact ⟨cs', _, hr'⟩

theorem set_alloc (w : World) (k i : Nat) (u : Value) (B : Obj) (h : k < w.heap.size) : (w.setCell ⟨k, i, none⟩ u).alloc B = (w.alloc B).setCell ⟨k, i, none⟩ u := by
  unfold World.setCell
  show { w with heap := _ } = { w with heap := _ }
  congr 1
  show (w.heap.modify k _).push B = (w.heap.push B).modify k _
  apply Array.ext_getElem?
  intro j
  rw [Array.getElem?_push, Array.getElem?_modify, Array.getElem?_modify, Array.getElem?_push, Array.size_modify]
  by_cases e : j = w.heap.size
  · subst e
    rw [if_pos rfl, if_neg (by omega), if_pos rfl]
  · rw [if_neg e, if_neg e]

theorem keep_set {w3 : World} {k i b off : Nat} {u v : Value} {B : Obj} (h : w3.cell? ⟨b, off, none⟩ = some v) (hne : b ≠ k) : ((w3.setCell ⟨k, i, none⟩ u).alloc B).drew.cell? ⟨b, off, none⟩ = some v :=
  ((((Kept.refl w3 (fun j => j = k)).setCell ⟨k, i, none⟩ u (fun _ => rfl)).alloc B).drewN 1).cell h hne

theorem fillP_step {w wr w1 : World} {pb po pn pc t : Nat} {cs : Array Value} {u : Value} (hl : Lies w 58 ⟨some ⟨pb, po, none⟩, pn, pc⟩) (h : FillsP w wr ⟨some ⟨pb, po, none⟩, pn, pc⟩ t) (hk : Kept wr w1 (fun _ => False)) (hr : wr.heap[pb]? = some (.cells cs 58 (0, 0))) (hsz : po + pc ≤ cs.size) (ht : t < pc)
    (hu : SeesB w1 u (markS (-1000000))) (hus : ∃ a n c, u = .slice a n c) : FillsP w (w1.setCell ⟨pb, po + t, none⟩ u) ⟨some ⟨pb, po, none⟩, pn, pc⟩ (t + 1) := by
  obtain ⟨ys, hyl, hT, hH, hM⟩ := h
  have hr1 := hk.heap hr (fun h => h)
  have hT1 := hT.new hk
  have hset : Turned w1 (w1.setCell ⟨pb, po + t, none⟩ u) (⟨some ⟨pb, po, none⟩, pn, pc⟩ : Pc).foot := (Turned.refl _ _).setCell u (fun _ => ⟨po, rfl, by omega, by show po + t < po + pc; omega⟩)
  have hrow := footP_row hl hT1
  subst hyl
  have h2 := has_more (y := u) (hH.kept hk) rfl hr1 (by omega)
  refine ⟨ys ++ [u], by simp, hT1.trans hset (fun _ _ _ h => h), by simpa using h2, fun x hx => ?_⟩
  rcases List.mem_append.1 hx with hx | hx
  · exact ⟨((hM.kept hk) x hx).1.turned hset hrow (by decide), (hM x hx).2⟩
  · simp at hx
    subst hx
    exact ⟨hu.turned hset hrow (by decide), hus⟩

set_option maxRecDepth 8000 in
set_option maxHeartbeats 2000000 in
theorem apartPieces_one (v : Value) (p : Pc) (w : World) (hv : SeesPcs w 33 v [p]) (hl : Lies w 58 p) (hb : p.n ≤ 1000000000) (ht : Tab w) (hg0 : 1 < w.heap.size) (hgt : ∀ x, ¬ p.foot 1 x) :
    Calls Tryz.prog 41 #[v] w fun e w' => e = .returned (.bool true) ∧ Turned w w' p.foot := by
  have HV : Hid (SeesPcs w 33 v [p] ∧ Lies w 58 p ∧ Tab w ∧ ∀ x, ¬ p.foot 1 x) := ⟨hv, hl, ht, hgt⟩
  obtain ⟨ao, cap, rfl, hlc, hcm, h3⟩ := hv
  unfold maxLen at hcm
  obtain ⟨b, off, rfl, hT, h4⟩ : ∃ b off, ao = some ⟨b, off, none⟩ ∧ (∃ cs fr, w.heap[b]? = some (.cells cs 33 fr)) ∧ w.cell? ⟨b, off, none⟩ = some p.val := by
    rcases h3 with h3 | ⟨b, off, e, hT, h4⟩
    · simp at h3
    · exact ⟨b, off, e, hT, h4 0 (by simp)⟩
  have HT : Hid (∀ wr, Turned w wr p.foot → Tab wr) := fun wr h => Tab.same ht (h.same _ hg0 hgt)
  have HC : Hid (∀ wr, Turned w wr p.foot → wr.cell? ⟨b, off, none⟩ = some (.slice p.ao p.n p.cap)) := fun wr h => h.cell h4 (fun hs => by
    obtain ⟨cs, fr, hr⟩ := hT
    obtain ⟨_, cs2, hr2⟩ := hl.foot_lt hs
    rw [hr] at hr2
    simp at hr2)
  simp only [List.length_cons, List.length_nil, Nat.zero_add] at hlc HV ⊢
  clear hl ht hgt h3 hT h4
  obtain ⟨pa, pn, pc⟩ := p
  simp only at hb HC
  go_enter Tryz.func41, Tryz.ntmps41
  go_wp2
  go_loopw [3] (fun i wr => (i = .int .i64 0 ∧ wr = w) ∨ (i = .int .i64 1 ∧ FillsP w wr ⟨pa, pn, pc⟩ pn)) (fun i _ => 1 - (intOf i).toNat)
  case atStart => exact .inl ⟨rfl, rfl⟩
  case round =>
    rcases hrel with ⟨rfl, hwr⟩ | ⟨rfl, hF⟩
    · have hwr' := hwr.symm
      subst hwr'
      clear hwr
      have e1 := HC.out w (Turned.refl _ _)
      go_wp2
      go_loopw [4] (fun kv wx => ∃ t : Nat, kv = .int .i64 t ∧ t ≤ pn ∧ FillsP w wx ⟨pa, pn, pc⟩ t) (fun kv _ => pn - (intOf kv).toNat)
      case atStart => exact ⟨0, rfl, Nat.zero_le _, [], rfl, Turned.refl _ _, ⟨rfl, .inl rfl⟩, fun u hu => by simp at hu⟩
      case round =>
        clear e1
        obtain ⟨t, rfl, htn, hF⟩ := hrel
        have hTt : Turned w wr (⟨pa, pn, pc⟩ : Pc).foot := by obtain ⟨_, _, h, _⟩ := hF; exact h
        have e1 := HC.out wr hTt
        have HF : Hid (FillsP w wr ⟨pa, pn, pc⟩ t ∧ Turned w wr (⟨pa, pn, pc⟩ : Pc).foot) := ⟨hF, hTt⟩
        clear hF
        by_cases hlt : t < pn
        · have hle := HV.out.2.1.le
          simp only at hle
          obtain ⟨pb, po, cs, ha, hr, hsz⟩ := (HV.out.2.1.turned hTt).at' (by show 0 < pc; omega)
          simp only at ha hsz
          subst ha
          have hcc : wr.cell? ⟨pb, po + t, none⟩ = some cs[po + t] := by rw [cell_of_row wr pb _ cs _ _ hr]; exact Array.getElem?_eq_getElem (by omega)
          have hfz : wr.frozen? ⟨pb, po + t, none⟩ = false := frozen_of_row wr pb _ cs _ hr
          have HR : Hid (wr.heap[pb]? = some (.cells cs 58 (0, 0)) ∧ po + pc ≤ cs.size) := ⟨hr, hsz⟩
          clear hr
          generalize cs[po + t] = old at hcc
          have hms := markS_len (-1000000) (by omega) (by omega)
          have HMS : Hid ((markS (-1000000)).size ≤ 210000) := hms
          have hne : b ≠ pb := by
            intro e
            subst e
            rw [cell_of_row wr b _ cs _ _ HR.out.1] at e1
            obtain ⟨ao', cap', e2, _, _, h3⟩ := HV.out.1
            rcases h3 with h3 | ⟨b', off', e3, ⟨cs', fr', hr'⟩, _⟩
            · simp at h3
            · simp at e2
              rw [← e2.1] at e3
              simp at e3
              obtain ⟨rfl, rfl⟩ := e3
              obtain ⟨cs2, hr2, _⟩ := HF.out.2.row b cs' _ fr' hr'
              rw [HR.out.1] at hr2
              simp at hr2
          have hpbl : pb < wr.heap.size := lt_of_block HR.out.1
          have hbl : b < wr.heap.size := World.block_lt_of_cell? wr _ e1
          have r1 : wr.drew.cell? ⟨b, off, none⟩ = some (.slice (some ⟨pb, po, none⟩) pn pc) := e1
          go_upto_region 7 with fail
          go_region_held (fun w' => w'.cell? ⟨b, off, none⟩ = some (.slice (some ⟨pb, po, none⟩) pn pc)) (first | exact r1 | exact x1 | exact keep_set x1 hne | go_keep)
            (first
            | (go_at_call 75; refine (mark_w (-1000000) ?_ ?_ _ (HT.out _ (HF.out.2.drewN 1))).mono ?_; decide; decide; rintro e w3 ⟨rfl, hb3⟩; have HK3 : Hid (Kept wr w3 (fun _ => False)) := ((Kept.refl wr _).drewN 1).trans (news' hb3) (fun _ _ h => h); have x1 := HK3.out.cell e1 (fun h => h); have x2 := HK3.out.cell hcc (fun h => h); have x3 : w3.frozen? ⟨pb, po + t, none⟩ = false := frozen_of_row w3 pb _ cs _ (HK3.out.heap HR.out.1 (fun h => h)); have x4 : pb < w3.heap.size := Nat.lt_of_lt_of_le hpbl HK3.out.size; have x5 : b < w3.heap.size := Nat.lt_of_lt_of_le hbl HK3.out.size; have hcv := run_bytes_of_string (P := Tryz.prog) w3 9 58 5 (markS (-1000000)) Tryz.underlying9 Tryz.underlying58 Tryz.underlying5; clear hb3))
          all_goals go_wp2
          all_goals go_roundw
          case rel =>
            refine ⟨t + 1, by go_num, by omega, ?_⟩
            rw [set_alloc _ _ _ _ _ x4]
            exact fillP_step (w1 := (w3.alloc _).drew) HV.out.2.1 HF.out.1 ((HK3.out.alloc _).drewN 1) HR.out.1 HR.out.2 (by omega) (seesB_text w3 _ (by have := HMS.out; unfold maxLen; omega) _) ⟨_, _, _, rfl⟩
          case measure => simp [intOf]; omega
        · obtain rfl : t = pn := by omega
          go_wp2
          go_roundw
          case rel => exact .inr ⟨by go_num, HF.out.1⟩
          case measure => simp [intOf]
    · obtain ⟨ys, hyl, hTw, hH, hM⟩ := hF
      have HF : Hid (SeesPcs wr 33 (.slice (some ⟨b, off, none⟩) 1 cap) [⟨pa, pn, pc⟩] ∧ Lies wr 58 ⟨pa, pn, pc⟩ ∧ (⟨pa, pn, pc⟩ : Pc).Has wr ys ∧ Marks wr ys (markS (-1000000)) ∧ Turned w wr (⟨pa, pn, pc⟩ : Pc).foot ∧ Tab wr) := ⟨HV.out.1.turned hTw (qs := [⟨pa, pn, pc⟩]) (fun k x h => ⟨_, List.mem_singleton.2 rfl, h⟩) (fun q hq => by rw [List.mem_singleton.1 hq]; exact HV.out.2.1) (by decide), HV.out.2.1.turned hTw, hH, hM, hTw, HT.out wr hTw⟩
      have hgw : 1 < wr.heap.size := Nat.lt_of_lt_of_le hg0 hTw.size
      clear hTw hH hM
      go_wp2_with fail
      refine (grownPieces_one _ ⟨pa, pn, pc⟩ ys 1 _ HF.out.1 HF.out.2.1 (by omega) hb HF.out.2.2.1 HF.out.2.2.2.1 HF.out.2.2.2.2.2 hgw (fun x h => HV.out.2.2.2 x (Pc.spare_foot h))).mono ?_
      rintro e w3 ⟨rfl, hT3⟩
      have HF3 : Hid (SeesPcs w3 33 (.slice (some ⟨b, off, none⟩) 1 cap) [⟨pa, pn, pc⟩] ∧ Lies w3 58 ⟨pa, pn, pc⟩ ∧ (⟨pa, pn, pc⟩ : Pc).Has w3 ys ∧ Marks w3 ys (markS (-1000000)) ∧ Turned w w3 (⟨pa, pn, pc⟩ : Pc).foot ∧ Tab w3) :=
        ⟨HF.out.1.turned hT3 (qs := [⟨pa, pn, pc⟩]) (fun k x h => ⟨_, List.mem_singleton.2 rfl, Pc.spare_foot h⟩) (fun q hq => by rw [List.mem_singleton.1 hq]; exact HF.out.2.1) (by decide), HF.out.2.1.turned hT3, HF.out.2.2.1.turned hT3 (fun k x _ => by by_cases h : (⟨pa, pn, pc⟩ : Pc).spare k x; exact .inl h; exact .inr h) HF.out.2.1.le, HF.out.2.2.2.1.turned hT3 (spare_row HF.out.2.1 (Turned.refl _ (fun _ _ => False))), HF.out.2.2.2.2.1.trans hT3 (fun _ _ _ h => Pc.spare_foot h), HT.out w3 (HF.out.2.2.2.2.1.trans hT3 (fun _ _ _ h => Pc.spare_foot h))⟩
      have hg3 : 1 < w3.heap.size := Nat.lt_of_lt_of_le hgw hT3.size
      clear hT3
      go_wp2_with fail
      refine (grownPieces_one _ ⟨pa, pn, pc⟩ ys 24 _ HF3.out.1 HF3.out.2.1 (by omega) hb HF3.out.2.2.1 HF3.out.2.2.2.1 HF3.out.2.2.2.2.2 hg3 (fun x h => HV.out.2.2.2 x (Pc.spare_foot h))).mono ?_
      rintro e w4 ⟨rfl, hT4⟩
      have HE : Hid (Turned w w4 (⟨pa, pn, pc⟩ : Pc).foot) := HF3.out.2.2.2.2.1.trans hT4 (fun _ _ _ h => Pc.spare_foot h)
      clear hT4
      go_wp2
      go_ret
      exact ⟨rfl, HE.out⟩
end Go.Proofs.YtbdokdhconhifaaGreatDoor

/- The statements' Bag: one list of lists of bytes is put in, and each of its lists; all are apart. -/
namespace Go.Proofs.YtbdokdhconhifaaGreatDoor
open Go.RowKit
set_option maxRecDepth 8000

abbrev nilS : Value := .slice none 0 0
/-- The cells of a Bag that holds lists of bytes and lists of these alone. -/
abbrev bagCells (bv pv : Value) : Array Value := #[bv, nilS, nilS, pv, nilS, nilS, nilS, nilS, nilS, nilS, nilS, nilS, nilS, nilS, nilS, nilS, nilS, nilS, nilS, nilS, nilS]

structure BagIs (w : World) (g : Nat) (bv pv : Value) (ps qs : List Pc) (B : Nat) : Prop where
  row : w.heap[g]? = some (.cells (bagCells bv pv) 55 (0, 0))
  bs : w.ownsRow B 58 1 bv ps.length (ps.map Pc.val)
  pc : w.ownsRow B 33 1 pv qs.length (qs.map Pc.val)

theorem own_not {w : World} {g B : Nat} {v : Value} {n : Nat} {xs : List Value} {T E : TypeId} {cs : Array Value} {fr : Nat × Nat} (h : w.ownsRow B E 1 v n xs) (hr : w.heap[g]? = some (.cells cs T fr)) (hTE : T ≠ E) : v.ownBlock ≠ some g := by
  intro e
  rcases h.2 with ⟨rfl, _⟩ | ⟨g', cap, cur, rfl, _, h2, _⟩
  · simp [Value.ownBlock] at e
  · simp [Value.ownBlock] at e
    subst e
    rw [hr] at h2
    simp at h2
    exact hTE h2.2.1

theorem own_apart {w : World} {B B' : Nat} {v v' : Value} {n n' : Nat} {xs xs' : List Value} {T E : TypeId} (h : w.ownsRow B T 1 v n xs) (h' : w.ownsRow B' E 1 v' n' xs') (hTE : T ≠ E) : ∀ k, v.ownBlock = some k → v'.ownBlock ≠ some k := by
  intro k e
  rcases h.2 with ⟨rfl, _⟩ | ⟨g', cap, cur, rfl, _, h2, _⟩
  · simp [Value.ownBlock] at e
  · simp [Value.ownBlock] at e
    subst e
    exact own_not h' h2 hTE

theorem ownsRow_same' {w w' : World} {base : Nat} {T : TypeId} {v : Value} {n : Nat} {xs : List Value} {S : Nat → Prop} (h : w.ownsRow base T 1 v n xs) (hk : Kept w w' S) (hn : ∀ k, v.ownBlock = some k → ¬ S k) : w'.ownsRow base T 1 v n xs :=
  ownsRow_same h (fun g _ hg _ hv => hk.block g (lt_of_block hg) (hn g hv))

theorem bag_c0 {w : World} {g : Nat} {bv pv : Value} (h : w.heap[g]? = some (.cells (bagCells bv pv) 55 (0, 0))) : w.cell? ⟨g, 0, none⟩ = some bv := by rw [cell_of_row w g 0 _ _ _ h]; rfl
theorem bag_c3 {w : World} {g : Nat} {bv pv : Value} (h : w.heap[g]? = some (.cells (bagCells bv pv) 55 (0, 0))) : w.cell? ⟨g, 3, none⟩ = some pv := by rw [cell_of_row w g 3 _ _ _ h]; rfl

set_option maxRecDepth 8000 in
set_option maxHeartbeats 400000 in
theorem addBytes_any (g : Nat) (bv pv : Value) (ps qs : List Pc) (B : Nat) (p : Pc) (w : World) (h : BagIs w g bv pv ps qs B) (hn : ps.length < 600) (hB : B ≤ w.heap.size) :
    Calls Tryz.prog 10 #[.pointer (some ⟨g, 0, none⟩), p.val] w fun e w' => e = .returned (.tuple #[]) ∧ ∃ bv', BagIs w' g bv' pv (ps ++ [p]) qs B ∧ Kept w w' (fun k => k = g ∨ bv.ownBlock = some k) ∧ NewRow w bv bv' := by
  obtain ⟨i1, gi, gz0, gz1, gz2⟩ := info_parts Tryz.infoBytes
  have c0 := bag_c0 h.row
  have f0 := frozen_of_row w g 0 _ _ h.row
  have H : Hid (BagIs w g bv pv ps qs B) := h
  obtain ⟨pa, pn, pc⟩ := p
  obtain ⟨ao, n, cap, hbv⟩ : ∃ ao n cap, bv = .slice ao n cap ∧ n = ps.length := by
    rcases h.bs.2 with ⟨rfl, h0⟩ | ⟨g', c, cur, rfl, _⟩
    · exact ⟨none, 0, 0, rfl, h0.symm⟩
    · exact ⟨_, _, _, rfl, rfl⟩
  obtain ⟨rfl, rfl⟩ := hbv
  have hgw : g < w.heap.size := lt_of_block h.row
  have hna := own_not h.bs h.row (by decide)
  have HNA : Hid ((Value.slice ao ps.length cap).ownBlock ≠ some g) := hna
  clear h hna
  unfold Pc.val
  simp only
  go_enter Tryz.func10, Tryz.ntmps10
  go_wp2_with (at_builtin; refine wpList_append_own_at _ rfl (.tmp 14) (.tmp 16) 33 rfl B 58 i1 _ 1 24 Tryz.underlying33 gi gz0 gz1 gz2 rfl (by decide) (.slice ao ps.length cap) ps.length (ps.map Pc.val) rfl (ownsRow_same' H.out.bs ((Kept.refl w (fun _ => False)).alloc _) (fun _ _ h => h)) ⟨w.heap.size, 0, none⟩ 1 1 [.slice pa pn pc] rfl rfl (new_cell1 _ _ _) ?one (by unfold maxLen; omega) (by omega) (by simp; omega) ?_)
  case one => intro u hu; simp at hu; subst hu; rfl
  intro v' w1 hown hgrow _ hat
  have hk1 : Kept w w1 (fun k => (Value.slice ao ps.length cap).ownBlock = some k) := ((Kept.refl w _).alloc _).trans (kept_grown hgrow (fun k e => e)) (fun _ _ h => h)
  have hrow1 := hk1.heap H.out.row HNA.out
  have hnew : NewRow w (.slice ao ps.length cap) v' := by
    rcases hat with e | e
    · exact .inl e
    · exact .inr ⟨_, e, by simp⟩
  have c1 := bag_c0 hrow1
  have f1 := frozen_of_row w1 g 0 _ _ hrow1
  obtain ⟨ao', n', cap', rfl⟩ : ∃ a n c, v' = .slice a n c := by
    rcases hown.2 with ⟨rfl, _⟩ | ⟨g', c, cur, rfl, _⟩
    · exact ⟨_, _, _, rfl⟩
    · exact ⟨_, _, _, rfl⟩
  have HR : Hid (BagIs (w1.setCell ⟨g, 0, none⟩ (.slice ao' n' cap')) g (.slice ao' n' cap') pv (ps ++ [⟨pa, pn, pc⟩]) qs B ∧ Kept w (w1.setCell ⟨g, 0, none⟩ (.slice ao' n' cap')) (fun k => k = g ∨ (Value.slice ao ps.length cap).ownBlock = some k) ∧ NewRow w (.slice ao ps.length cap) (.slice ao' n' cap')) := by
    have hks : Kept w1 (w1.setCell ⟨g, 0, none⟩ (.slice ao' n' cap')) (fun k => k = g) := (Kept.refl w1 _).setCell _ _ (fun _ => rfl)
    refine ⟨⟨?_, ?_, ?_⟩, (hk1.mono (fun _ _ h => .inr h)).trans hks (fun _ _ h => .inl h), hnew⟩
    · rw [setCell_eq_setRow w1 g 0 _ _ _ _ hrow1, setRow_heap w1 g _ _ _ _ hrow1]; rfl
    · have e : (ps ++ [(⟨pa, pn, pc⟩ : Pc)]).map Pc.val = ps.map Pc.val ++ [.slice pa pn pc] := by rw [List.map_append]; rfl
      rw [e, List.length_append]
      exact ownsRow_same' hown hks (fun k hv e => by subst e; exact own_not hown hrow1 (by decide) hv)
    · exact ownsRow_same' (ownsRow_same' H.out.pc hk1 (own_apart H.out.pc H.out.bs (by decide))) hks (fun k hv e => by subst e; exact own_not H.out.pc H.out.row (by decide) hv)
  clear hown hgrow hat hk1 hrow1 hnew
  go_wp2
  go_end0
  exact ⟨rfl, _, HR.out⟩

end Go.Proofs.YtbdokdhconhifaaGreatDoor

/- The statements' Bag, filled with one list of lists of bytes, and its Apart. -/
namespace Go.Proofs.YtbdokdhconhifaaGreatDoor
open Go.RowKit
set_option maxRecDepth 8000

theorem sees_own {w : World} {B : Nat} {T : TypeId} {v : Value} {ps : List Pc} (h : w.ownsRow B T 1 v ps.length (ps.map Pc.val)) : SeesPcs w T v ps := by
  rcases h.2 with ⟨rfl, h0⟩ | ⟨g, cap, cur, rfl, _, hr, h1, h2, h3, h4⟩
  · have e : ps = [] := List.eq_nil_of_length_eq_zero h0
    subst e
    exact ⟨none, 0, rfl, Nat.le_refl _, Nat.zero_le _, .inl rfl⟩
  · refine ⟨_, cap, rfl, h1, h2, .inr ⟨g, 0, rfl, ⟨cur, _, hr⟩, fun i hi => ?_⟩⟩
    rw [Nat.zero_add, cell_of_row w g i cur _ _ hr, ← Array.getElem?_toList]
    have e2 : (cur.toList.take (ps.length * 1))[i]? = some (Pc.val ps[i]) := by rw [h4, List.getElem?_map, List.getElem?_eq_getElem hi]; rfl
    rw [List.getElem?_take, if_pos (by omega)] at e2
    exact e2

end Go.Proofs.YtbdokdhconhifaaGreatDoor
