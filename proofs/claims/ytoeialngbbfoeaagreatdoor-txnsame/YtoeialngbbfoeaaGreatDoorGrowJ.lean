/- grownBytes of the statements: lists of bytes that are marked, each grown by so many: each holds what was written into it. -/
import Derived.Test.YtoeialngbbfoeaaGreatDoorProg
import Derived.Test.YtoeialngbbfoeaaGreatDoorBqAJ
import Derived.Deep.QuietTactic
import Derived.BigQuiet
namespace Go.Proofs.YtoeialngbbfoeaaGreatDoor
open Go.RowKit
set_option maxRecDepth 8000

theorem Tryz.infoU8W : (Tryz.prog.info? 5).map (fun i => (i.zero, i.size, i.bytes)) = some (some (.int .u8 0), 1, 1) := by kernel_rfl
theorem Tryz.infoBytes : (Tryz.prog.info? 28).map (fun i => (i.zero, i.size, i.bytes)) = some (some (.slice none 0 0), 1, 24) := by kernel_rfl

/-- The mark of the j-th list, and what it is grown by. -/
def mkB (d j : Nat) : Value := .int .u8 ((wrap64 ((j : Int) / (d : Int))).tmod 100 % 256)
def mkC (d j : Nat) : Value := .int .u8 (wrap64 (100 + (wrap64 ((j : Int) / (d : Int))).tmod 100) % 256)

theorem raw8 (x : Int) : IntKind.u8.wrap x = x % 256 := by simp [IntKind.wrap, IntKind.bits, IntKind.signed]
theorem raw64 (x : Int) : IntKind.i64.wrap x = wrap64 x := by
  simp [IntKind.wrap, IntKind.bits, IntKind.signed, wrap64]
  omega
theorem markB_raw (d i : Nat) : ((wrap64 ((i : Int) / (d : Int))).tmod 100 % 256 != IntKind.u8.wrap ((IntKind.i64.wrap ((i : Int) / (d : Int))).tmod 100)) = false := by rw [raw8, raw64]; simp
theorem markC_raw (d i : Nat) : (wrap64 (100 + (wrap64 ((i : Int) / (d : Int))).tmod 100) % 256 != IntKind.u8.wrap (IntKind.i64.wrap (100 + (IntKind.i64.wrap ((i : Int) / (d : Int))).tmod 100))) = false := by rw [raw8, raw64, raw64]; simp

theorem new_cell1 (w : World) (u : Value) (T : TypeId) : ∀ (j : Nat) (y : Value), [u][j]? = some y → (w.alloc (.cells #[u] T)).cell? ((⟨w.heap.size, 0, none⟩ : Addr).add j) = some y := by
  intro j y hj
  cases j with
  | zero =>
    simp at hj
    subst hj
    rw [Addr.add_lit, cell_of_row _ w.heap.size _ _ _ _ (heap_alloc_new w _)]
    rfl
  | succ j => simp at hj

/-- What the look at the grown lists finds. -/
structure Found (w : World) (p q : Pc) (x y : Value) (more : Nat) : Prop where
  qn : q.n = p.n + more
  pat : ∀ t, t < p.n → ∃ k off, p.ao = some ⟨k, off, none⟩ ∧ w.cell? ⟨k, off + t, none⟩ = some x
  qat : ∀ t, t < p.n → ∃ k off, q.ao = some ⟨k, off, none⟩ ∧ w.cell? ⟨k, off + t, none⟩ = some x
  qmore : ∀ t, p.n ≤ t → t < p.n + more → ∃ k off, q.ao = some ⟨k, off, none⟩ ∧ w.cell? ⟨k, off + t, none⟩ = some y

theorem found {w : World} {p q : Pc} {x y : Value} {more : Nat} (hp : p.Has w (List.replicate p.n x)) (hq : q.Has w (List.replicate p.n x ++ List.replicate more y)) : Found w p q x y more := by
  have hl : q.n = p.n + more := by have := hq.1; simp at this; omega
  have hat : ∀ t, (ht : t < p.n + more) → ∃ k off, q.ao = some ⟨k, off, none⟩ ∧ w.cell? ⟨k, off + t, none⟩ = some ((List.replicate p.n x ++ List.replicate more y)[t]'(by simp; omega)) := by
    intro t ht
    rcases hq.2 with h0 | ⟨k, off, e, h⟩
    · have := congrArg List.length h0; simp at this; omega
    · exact ⟨k, off, e, h t (by simp; omega)⟩
  refine ⟨hl, fun t ht => ?_, fun t ht => ?_, fun t h1 h2 => ?_⟩
  · rcases hp.2 with h0 | ⟨k, off, e, h⟩
    · have := congrArg List.length h0; simp at this; omega
    · exact ⟨k, off, e, by rw [h t (by simpa using ht)]; simp⟩
  · obtain ⟨k, off, e, h⟩ := hat t (by omega)
    exact ⟨k, off, e, by rw [h, List.getElem_append_left (by simpa using ht)]; simp⟩
  · obtain ⟨k, off, e, h⟩ := hat t h2
    exact ⟨k, off, e, by rw [h, List.getElem_append_right (by simpa using h1)]; simp⟩

theorem rep_snoc (n t : Nat) (x y : Value) : List.replicate n x ++ List.replicate (t + 1) y = List.replicate n x ++ List.replicate t y ++ [y] := by rw [List.append_assoc, ← List.replicate_succ']

set_option maxRecDepth 8000 in
set_option maxHeartbeats 2000000 in
theorem grownBytes_any (v : Value) (ps : List Pc) (d more : Nat) (w : World) (hv : SeesPcs w 28 v ps) (hl : ∀ p ∈ ps, Lies w 5 p) (hap : ApartPcs ps) (hd : 1 ≤ d) (hd' : d ≤ 10000) (hm : more ≤ 64) (hn : ps.length ≤ 600) (hb : ∀ p ∈ ps, p.n ≤ 70000000000000)
    (hf : ∀ j (h : j < ps.length), ps[j].Has w (List.replicate ps[j].n (mkB d j))) :
    Calls Tryz.prog 82 #[v, .int .i64 d, .int .i64 more] w fun e w' => e = .returned (.bool true) ∧ Turned w w' (spares ps) := by
  obtain ⟨i0, hi, hz0, hz1, hz2⟩ := info_parts Tryz.infoU8W
  obtain ⟨i1, gi, gz0, gz1, gz2⟩ := info_parts Tryz.infoBytes
  obtain ⟨ao, cap, rfl, hlc, hcm, h3⟩ := hv
  unfold maxLen at hcm
  have HL : Hid ((∀ p ∈ ps, Lies w 5 p) ∧ ApartPcs ps ∧ (∀ p ∈ ps, p.n ≤ 70000000000000) ∧ (∀ j (h : j < ps.length), ps[j].Has w (List.replicate ps[j].n (mkB d j)))) := ⟨hl, hap, hb, hf⟩
  have H3 : Hid (ps = [] ∨ ∃ b off, ao = some ⟨b, off, none⟩ ∧ (∃ cs fr, w.heap[b]? = some (.cells cs 28 fr)) ∧ ∀ i (h : i < ps.length), w.cell? ⟨b, off + i, none⟩ = some ps[i].val) := h3
  clear hl hap hb hf h3
  go_enter Tryz.func82, Tryz.ntmps82
  go_wp2
  go_loopw [7, 8] (fun mv i wr => ∃ k qs, i = .int .i64 (k : Nat) ∧ Built w wr 5 28 ps (mkB d) (mkC d) more k mv qs) (fun _ i _ => ps.length - (intOf i).toNat)
  case atStart => exact ⟨0, [], rfl, Built.start _ _ _ _ _ _ _⟩
  case round =>
    obtain ⟨k, qs, rfl, hB⟩ := hrel
    rename World => wo
    have hkl := hB.le
    have HB : Hid (Built w wo 5 28 ps (mkB d) (mkC d) more k u7 qs) := hB
    clear hB
    by_cases hlt : k < ps.length
    · obtain ⟨b, off, rfl, hcell⟩ : ∃ b off, ao = some ⟨b, off, none⟩ ∧ wo.cell? ⟨b, off + k, none⟩ = some (.slice ps[k].ao ps[k].n ps[k].cap) := by
        rcases H3.out with h3 | ⟨b, off, e, ⟨cs, fr, hr⟩, h4⟩
        · subst h3; simp at hlt
        · refine ⟨b, off, e, HB.out.turned.cell (h4 k hlt) (fun ⟨p, hp, hs⟩ => ?_)⟩
          obtain ⟨_, cs2, hr2⟩ := (HL.out.1 p hp).foot_lt (Pc.spare_foot hs)
          rw [hr] at hr2
          simp at hr2
      have hG : Grown wo wo 5 ps[k] (.slice ps[k].ao ps[k].n ps[k].cap) (List.replicate ps[k].n (mkB d k)) := Grown.start ((HL.out.2.2.2 k hlt).turned HB.out.turned (fun x y hf => ?_) (HL.out.1 ps[k] (List.getElem_mem hlt)).le) ((HL.out.1 ps[k] (List.getElem_mem hlt)).turned HB.out.turned)
      rotate_left
      · by_cases hsp : ps[k].spare x y
        · exact .inl hsp
        · refine .inr fun ⟨p, hp, hs⟩ => ?_
          obtain ⟨j, hj, e⟩ := List.getElem_of_mem hp
          by_cases ejk : j = k
          · subst ejk; rw [e] at hsp; exact hsp hs
          · exact HL.out.2.1 k j hlt hj (fun e => ejk e.symm) x y hf (by rw [e]; exact Pc.spare_foot hs)
      have HG : Hid (Grown wo wo 5 ps[k] (.slice ps[k].ao ps[k].n ps[k].cap) (List.replicate ps[k].n (mkB d k)) ∧ Lies wo 5 ps[k] ∧ ps[k].n ≤ 70000000000000) := ⟨hG, (HL.out.1 ps[k] (List.getElem_mem hlt)).turned HB.out.turned, HL.out.2.2.1 _ (List.getElem_mem hlt)⟩
      clear hG
      generalize hpk : ps[k] = p at *
      obtain ⟨pa, pn, pc⟩ := p
      simp only at hcell HG
      have HP : Hid (ps[k] = ⟨pa, pn, pc⟩) := hpk
      clear hpk
      go_wp2
      go_loopw [9, 10] (fun mm kk wx => ∃ t : Nat, kk = .int .i64 t ∧ t ≤ more ∧ Grown wo wx 5 ⟨pa, pn, pc⟩ mm (List.replicate pn (mkB d k) ++ List.replicate t (mkC d k))) (fun _ kk _ => more - (intOf kk).toNat)
      case atStart => exact ⟨0, rfl, Nat.zero_le _, by simpa using HG.out.1⟩
      case round =>
        obtain ⟨t, rfl, htm, hg⟩ := hrel
        have HX : Hid (Grown wo wr 5 ⟨pa, pn, pc⟩ u9 (List.replicate pn (mkB d k) ++ List.replicate t (mkC d k))) := hg
        clear hg
        by_cases hlt2 : t < more
        · have hpn := HG.out.2.2
          go_wp2_with (at_builtin; refine wpList_more rfl (.tmp 29) (.tmp 36) 28 rfl 5 i0 _ 1 Tryz.underlying28 hi hz0 hz1 hz2 rfl ⟨pa, pn, pc⟩ u9 _ (HX.out.alloc _) HG.out.2.1 rfl wr.heap.size 0 1 (mkC d k) rfl ?cell rfl ?b1 ?b2 ?_)
          case cell => rw [cell_of_row _ wr.heap.size 0 _ _ _ (heap_alloc_new wr _)]; rfl
          case b1 => simp [maxLen]; omega
          case b2 => simp; omega
          intro m' w' hG'
          have HG' : Hid (Grown wo w' 5 ⟨pa, pn, pc⟩ m' (List.replicate pn (mkB d k) ++ List.replicate (t + 1) (mkC d k))) := by
            rw [rep_snoc]; first | exact hG' | (rw [List.append_assoc]; exact hG')
          clear hG' HX
          go_wp2
          go_roundw
          case rel => exact ⟨t + 1, by go_num, by omega, HG'.out⟩
          case measure => simp [intOf]; omega
        · obtain rfl : t = more := by omega
          obtain ⟨q, hqv, hqh, hql, hqp⟩ := HX.out.pc HG.out.2.1
          have HQ : Hid (q.Has wr (List.replicate pn (mkB d k) ++ List.replicate t (mkC d k)) ∧ Lies wr 5 q ∧ (∀ k' x, q.foot k' x → (⟨pa, pn, pc⟩ : Pc).foot k' x ∨ w.heap.size ≤ k')) := by
            refine ⟨hqh, hql, fun k' x hf => ?_⟩
            rcases hqp k' x hf with h | h
            · exact .inl h
            · exact .inr (Nat.le_trans HB.out.turned.size h)
          have HM : Hid (Built w wr 5 28 ps (mkB d) (mkC d) t k u7 qs) := by
            refine HB.out.mid HL.out.1 HL.out.2.1 hlt ?_
            rw [HP.out]; exact HX.out.1
          obtain ⟨qa, qn, qc⟩ := q
          unfold Pc.val at hqv
          simp only at hqv
          subst hqv
          clear hqh hql hqp HX
          go_wp2_with (at_builtin; refine wpList_append_own_at _ rfl (.tmp 38) (.tmp 40) 41 rfl w.heap.size 28 i1 _ 1 24 Tryz.underlying41 gi gz0 gz1 gz2 rfl (by decide) u7 k (qs.map Pc.val) rfl (HM.out.kept ((Kept.refl wr _).alloc _)).own ⟨wr.heap.size, 0, none⟩ 1 1 [.slice qa qn qc] rfl rfl ?cell ?one ?b1 ?b2 ?b3 ?_)
          case cell => exact new_cell1 _ _ _
          case one => intro u hu; simp at hu; subst hu; rfl
          case b1 => simp [maxLen]; omega
          case b2 => omega
          case b3 => have := HM.out.turned.size; simp; omega
          intro m' w' hown hgrow _ _
          have HN : Hid (Built w w' 5 28 ps (mkB d) (mkC d) t (k + 1) m' (qs ++ [⟨qa, qn, qc⟩])) := by
            have hk : Kept wr (wr.alloc (.cells #[.slice qa qn qc] 28)) (fun _ => False) := (Kept.refl wr _).alloc _
            refine (HM.out.kept hk).step (by decide) hlt ?_ (HQ.out.2.1.turned (Turned.of_kept hk (fun _ _ => False))) ?_ hown hgrow
            · rw [HP.out]; exact HQ.out.1.kept hk
            · rw [HP.out]; exact HQ.out.2.2
          clear hown hgrow HM HQ
          go_wp2
          go_roundw
          case rel => exact ⟨k + 1, _, by go_num, HN.out⟩
          case measure => simp [intOf]; omega
    · obtain rfl : k = ps.length := by omega
      have HO : Hid (Built w wo 5 28 ps (mkB d) (mkC d) more ps.length u7 qs) := HB.out
      clear HB
      have hfind : ∀ i (h : i < ps.length), ∃ b off g c q, ao = some ⟨b, off, none⟩ ∧ u7 = .slice (some ⟨g, 0, none⟩) ps.length c ∧ wo.cell? ⟨b, off + i, none⟩ = some ps[i].val ∧ wo.cell? ⟨g, i, none⟩ = some (Pc.val q) ∧ Found wo ps[i] q (mkB d i) (mkC d i) more := by
        intro i hi
        rcases H3.out with h3 | ⟨b, off, e, ⟨cs, fr, hr⟩, h4⟩
        · subst h3; simp at hi
        have hq : i < qs.length := by rw [HO.out.len]; exact hi
        rcases HO.out.own.2 with ⟨_, h0⟩ | ⟨g, c, cur, e7, hb, hg, k1, k2, k3, k4⟩
        · omega
        refine ⟨b, off, g, c, qs[i], e, e7, HO.out.turned.cell (h4 i hi) (fun ⟨p, hp, hs⟩ => ?_), ?_, found ((HL.out.2.2.2 i hi).turned HO.out.turned (fun x y hf => ?_) (HL.out.1 ps[i] (List.getElem_mem hi)).le) (HO.out.has i hq hi)⟩
        · obtain ⟨_, cs2, hr2⟩ := (HL.out.1 p hp).foot_lt (Pc.spare_foot hs)
          rw [hr] at hr2
          simp at hr2
        · rw [cell_of_row wo g i cur _ _ hg, ← Array.getElem?_toList]
          have e2 : (cur.toList.take (ps.length * 1))[i]? = some (Pc.val qs[i]) := by rw [k4, List.getElem?_map, List.getElem?_eq_getElem hq]; rfl
          rw [List.getElem?_take, if_pos (by omega)] at e2
          exact e2
        · by_cases hsp : ps[i].spare x y
          · exact .inl hsp
          · refine .inr fun ⟨p, hp, hs⟩ => ?_
            obtain ⟨j, hj, e⟩ := List.getElem_of_mem hp
            by_cases ejk : j = i
            · subst ejk; rw [e] at hsp; exact hsp hs
            · exact HL.out.2.1 i j hi hj (fun e => ejk e.symm) x y hf (by rw [e]; exact Pc.spare_foot hs)
      have HF : Hid (∀ i (h : i < ps.length), ∃ b off g c q, ao = some ⟨b, off, none⟩ ∧ u7 = .slice (some ⟨g, 0, none⟩) ps.length c ∧ wo.cell? ⟨b, off + i, none⟩ = some ps[i].val ∧ wo.cell? ⟨g, i, none⟩ = some (Pc.val q) ∧ Found wo ps[i] q (mkB d i) (mkC d i) more) := hfind
      clear hfind
      go_wp2
      go_loopw [11] (fun i wx => ∃ k m : Nat, i = .int .i64 k ∧ k ≤ ps.length ∧ wx = wo.drewN m) (fun i _ => ps.length - (intOf i).toNat)
      case atStart => exact ⟨0, 0, rfl, Nat.zero_le _, rfl⟩
      case round =>
        obtain ⟨i, m, rfl, hil, rfl⟩ := hrel
        by_cases hlt3 : i < ps.length
        · obtain ⟨b, off, g, c, q, rfl, rfl, c1, c2, hF⟩ := HF.out i hlt3
          have hbn := HL.out.2.2.1 _ (List.getElem_mem hlt3)
          generalize ps[i] = p at *
          obtain ⟨pa, pn, pc⟩ := p
          obtain ⟨qa, qn, qc⟩ := q
          have hqn := hF.qn
          simp only [Pc.val] at c1 c2 hbn hqn
          have HFi : Hid (Found wo ⟨pa, pn, pc⟩ ⟨qa, qn, qc⟩ (mkB d i) (mkC d i) more) := hF
          clear hF
          subst hqn
          go_wp2
          go_loopw [13] (fun t wx => ∃ k m : Nat, t = .int .i64 k ∧ k ≤ pn + more ∧ wx = wo.drewN m) (fun t _ => pn + more - (intOf t).toNat)
          case atStart => exact ⟨0, m, rfl, Nat.zero_le _, rfl⟩
          case round =>
            obtain ⟨t, m, rfl, htl, rfl⟩ := hrel
            by_cases hlt4 : t < pn + more
            · by_cases hlt5 : t < pn
              · obtain ⟨pb, po, e1, e2⟩ := HFi.out.pat t hlt5
                obtain ⟨qb, qo, e3, e4⟩ := HFi.out.qat t hlt5
                simp only at e1 e3
                subst e1 e3
                unfold mkB at e2 e4
                have hb1 : decide ((t : Int) < (pn : Int)) = true := by simp; omega
                have hb2 : decide ((pn : Int) ≤ (t : Int)) = false := by simp; omega
                have hb3 : decide (t < pn) = true := by simp; omega
                have hb4 : decide (pn ≤ t) = false := by simp; omega
                have hb5 : decide ((t : Int) ≥ (pn : Int)) = false := by simp; omega
                have z4 : ¬ d = 0 := by omega
                have z5 : (d == 0) = false := by simp; omega
                have z6 : decide (d = 0) = false := by simp; omega
                have raw1 := markB_raw d i
                have raw2 := markC_raw d i
                go_wp2
                go_quiet (fail)
                all_goals go_wp2
                all_goals go_roundw
                case rel => exact ⟨t + 1, _, by go_num, by omega, rfl⟩
                case measure => simp [intOf]; omega
              · obtain ⟨qb, qo, e3, e4⟩ := HFi.out.qmore t (by show pn ≤ t; omega) hlt4
                simp only at e3
                subst e3
                unfold mkC at e4
                have hb1 : decide ((t : Int) < (pn : Int)) = false := by simp; omega
                have hb2 : decide ((pn : Int) ≤ (t : Int)) = true := by simp; omega
                have hb3 : decide (t < pn) = false := by simp; omega
                have hb4 : decide (pn ≤ t) = true := by simp; omega
                have hb5 : decide ((t : Int) ≥ (pn : Int)) = true := by simp; omega
                have z4 : ¬ d = 0 := by omega
                have z5 : (d == 0) = false := by simp; omega
                have z6 : decide (d = 0) = false := by simp; omega
                have raw1 := markB_raw d i
                have raw2 := markC_raw d i
                go_wp2
                go_quiet (fail)
                all_goals go_wp2
                all_goals go_roundw
                case rel => exact ⟨t + 1, _, by go_num, by omega, rfl⟩
                case measure => simp [intOf]; omega
            · obtain rfl : t = pn + more := by omega
              go_wp2
              go_roundw
              case rel => exact ⟨i + 1, _, by go_num, by omega, rfl⟩
              case measure => simp [intOf]; omega
        · go_wp2
          go_ret
          exact ⟨rfl, HO.out.turned.new ((Kept.refl _ _).drewN _)⟩
end Go.Proofs.YtoeialngbbfoeaaGreatDoor
