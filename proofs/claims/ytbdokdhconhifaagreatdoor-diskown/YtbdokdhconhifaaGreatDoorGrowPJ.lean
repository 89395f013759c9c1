/- grownPieces of the statements, of one list of lists of bytes: marked, grown by so many: it holds what was written into it. -/
import Derived.Test.YtbdokdhconhifaaGreatDoorPieceJ
import Derived.Deep.RegionHeld
import Derived.Deep.CutRange
namespace Go.Proofs.YtbdokdhconhifaaGreatDoor
open Go.RowKit
set_option maxRecDepth 8000

theorem Tryz.infoBytes2 : (Tryz.prog.info? 33).map (fun i => (i.zero, i.size, i.bytes)) = some (some (.slice none 0 0), 1, 24) := by kernel_rfl

theorem mark_w (n : Int) (h0 : -3000000 ≤ n) (h1 : n ≤ 0) (w : World) (ht : Tab w) : Calls Tryz.prog 75 #[.int .i64 (IntKind.i64.wrap n)] w fun e w' => e = .returned (.string (markS n)) ∧ Below w.heap.size w w' := by
  have e : IntKind.i64.wrap n = n := by rw [raw64]; unfold wrap64; omega
  rw [e]
  exact mark_is n w (by omega) (by omega) ht

/-- The marks of one list, and what it is grown by. -/
def Marks (w : World) (ys : List Value) (s : ByteArray) : Prop := ∀ u ∈ ys, SeesB w u s ∧ ∃ a n c, u = .slice a n c

theorem Marks.kept {w w' : World} {ys : List Value} {s : ByteArray} (h : Marks w ys s) (hk : Kept w w' (fun _ => False)) : Marks w' ys s := fun u hu => ⟨(h u hu).1.kept hk, (h u hu).2⟩
theorem Marks.turned {w w' : World} {ys : List Value} {s : ByteArray} {S : Nat → Nat → Prop} (h : Marks w ys s) (ht : Turned w w' S) (hS : ∀ k x, S k x → ∃ cs fr, w.heap[k]? = some (.cells cs 58 fr)) : Marks w' ys s := fun u hu => ⟨(h u hu).1.turned ht hS (by decide), (h u hu).2⟩

theorem Tab.same {w w' : World} (h : Tab w) (he : w'.heap[1]? = w.heap[1]?) : Tab w' := by
  unfold Tab Lib.TabIs World.var? at *
  simp only [tab_global, Option.bind_some] at h ⊢
  rw [he]
  exact h

theorem news' {w w' : World} (h : Below w.heap.size w w') : Kept w w' (fun _ => False) := (Below.kept h).mono (fun k hk hs => by omega)

/-- Behind t rounds of the inner loop. -/
def GrowsP (w wr : World) (p : Pc) (ys : List Value) (t : Nat) (mm : Value) : Prop := ∃ zs, zs.length = t ∧ Grown w wr 58 p mm (ys ++ zs) ∧ Marks wr zs (markS (-2000000)) ∧ Marks wr ys (markS (-1000000))

theorem spare_row {w wr : World} {p : Pc} {E : TypeId} {S : Nat → Nat → Prop} (hl : Lies w E p) (ht : Turned w wr S) : ∀ k x, p.spare k x → ∃ cs fr, wr.heap[k]? = some (.cells cs E fr) := by
  intro k x hs
  obtain ⟨_, cs, hr⟩ := hl.foot_lt (Pc.spare_foot hs)
  obtain ⟨cs', hr', _, _⟩ := ht.row k cs E (0, 0) hr
  exact ⟨cs', _, hr'⟩

theorem Grown.new {wi wr w1 : World} {E : TypeId} {p : Pc} {m : Value} {xs : List Value} (h2 : Grown wi wr E p m xs) (hk : Kept wr w1 (fun _ => False)) : Grown wi w1 E p m xs := by
  refine ⟨h2.1.new hk, h2.2.1, ?_⟩
  rcases h2.2.2 with ⟨q1, q2, q3⟩ | q
  · exact .inl ⟨q1, q2, q3.kept hk⟩
  · exact .inr (ownsRow_same q (fun g _ hg _ _ => hk.block g (lt_of_block hg) (fun h => h)))

theorem kept_two (w : World) (B C : Obj) : Kept w ((w.alloc B).alloc C).drew (fun _ => False) := (((Kept.refl w _).alloc B).alloc C).drewN 1

theorem seesB_two (w : World) (s : ByteArray) (hs : s.size ≤ maxLen) (mk : Nat × Nat) (C : Obj) :
    SeesB ((w.alloc (.cells (bytesRow s (grownCap w s.size 0 5)) 5 mk)).alloc C).drew (.slice (some ⟨w.heap.size, 0, none⟩) s.size (grownCap w s.size 0 5)) s :=
  (seesB_text w s hs mk).kept (((Kept.refl _ _).alloc C))

theorem cell_two (w : World) (B : Obj) (u : Value) (T : TypeId) : ((w.alloc B).alloc (.cells #[u] T)).drew.cell? ⟨w.heap.size + 1, 0, none⟩ = some u := by
  have h := heap_alloc_new (w.alloc B) (.cells #[u] T)
  have e : (w.alloc B).heap.size = w.heap.size + 1 := by simp
  rw [e] at h
  have h2 : ((w.alloc B).alloc (.cells #[u] T)).drew.heap[w.heap.size + 1]? = some (.cells #[u] T) := h
  rw [cell_of_row _ _ _ _ _ _ h2]
  rfl

/-- Behind mark's call, the making of its bytes and of the list that holds them. -/
theorem grows_ahead {w wr w1 : World} {p : Pc} {ys : List Value} {t : Nat} {mm : Value} (h : GrowsP w wr p ys t mm) (hk : Kept wr w1 (fun _ => False)) : GrowsP w w1 p ys t mm := by
  obtain ⟨zs, h1, h2, h3, h4⟩ := h
  refine ⟨zs, h1, ⟨h2.1.new hk, h2.2.1, ?_⟩, h3.kept hk, h4.kept hk⟩
  rcases h2.2.2 with ⟨q1, q2, q3⟩ | q
  · exact .inl ⟨q1, q2, q3.kept hk⟩
  · exact .inr (ownsRow_same q (fun g _ hg _ _ => hk.block g (lt_of_block hg) (fun h => h)))

theorem Marks.typed {w w' : World} {ys : List Value} {s : ByteArray} {E : TypeId} (h : Marks w ys s) (hk : Kept w w' (OfType w E)) (hE : E ≠ 5) : Marks w' ys s := fun u hu => ⟨(h u hu).1.typed hk hE, (h u hu).2⟩

theorem grows_step {w w1 w2 : World} {p : Pc} {ys zs : List Value} {t : Nat} {mm' u : Value} (hlen : zs.length = t) (h3 : Marks w1 zs (markS (-2000000))) (h4 : Marks w1 ys (markS (-1000000))) (hG : Grown w w2 58 p mm' (ys ++ (zs ++ [u]))) (hk : Kept w1 w2 (OfType w1 58)) (hu : SeesB w1 u (markS (-2000000)) ∧ ∃ a n c, u = .slice a n c) : GrowsP w w2 p ys (t + 1) mm' := by
  refine ⟨zs ++ [u], by simp [hlen], hG, fun x hx => ?_, h4.typed hk (by decide)⟩
  rcases List.mem_append.1 hx with hx | hx
  · exact h3.typed hk (by decide) x hx
  · simp at hx
    subst hx
    exact ⟨hu.1.typed hk (by decide), hu.2⟩

set_option maxRecDepth 8000 in
set_option maxHeartbeats 2000000 in
theorem grownPieces_one (v : Value) (p : Pc) (ys : List Value) (more : Nat) (w : World) (hv : SeesPcs w 33 v [p]) (hl : Lies w 58 p) (hm : more ≤ 64) (hb : p.n ≤ 1000000000) (hf : p.Has w ys) (hy : Marks w ys (markS (-1000000))) (ht : Tab w) (hg0 : 1 < w.heap.size) (hgt : ∀ x, ¬ p.spare 1 x) :
    Calls Tryz.prog 77 #[v, .int .i64 more] w fun e w' => e = .returned (.bool true) ∧ Turned w w' p.spare := by
  obtain ⟨i0, hi, hz0, hz1, hz2⟩ := info_parts Tryz.infoBytes
  obtain ⟨i1, gi, gz0, gz1, gz2⟩ := info_parts Tryz.infoBytes2
  obtain ⟨ao, cap, rfl, hlc, hcm, h3⟩ := hv
  unfold maxLen at hcm
  obtain ⟨b, off, rfl, hT, h4⟩ : ∃ b off, ao = some ⟨b, off, none⟩ ∧ (∃ cs fr, w.heap[b]? = some (.cells cs 33 fr)) ∧ w.cell? ⟨b, off, none⟩ = some p.val := by
    rcases h3 with h3 | ⟨b, off, e, hT, h4⟩
    · simp at h3
    · exact ⟨b, off, e, hT, h4 0 (by simp)⟩
  simp only [List.length_cons, List.length_nil, Nat.zero_add] at hlc ⊢
  have HT : Hid (∀ wr S, Turned w wr S → (∀ x, ¬ S 1 x) → Tab wr) := fun wr S h hn => by
    exact Tab.same ht (h.same _ hg0 hn)
  have HP : Hid (SeesPcs w 33 (.slice (some ⟨b, off, none⟩) 1 cap) [p] ∧ Lies w 58 p ∧ p.Has w ys ∧ Marks w ys (markS (-1000000)) ∧ (∀ x, ¬ p.spare 1 x) ∧ ∃ cs fr, w.heap[b]? = some (.cells cs 33 fr)) := ⟨⟨_, _, rfl, hlc, by unfold maxLen; omega, h3⟩, hl, hf, hy, hgt, hT⟩
  have hyn : ys.length = p.n := hf.1
  have hcl : ∀ wr, Turned w wr p.spare → wr.cell? ⟨b, off, none⟩ = some (.slice p.ao p.n p.cap) := fun wr h => h.cell h4 (fun hs => by
    obtain ⟨cs, fr, hr⟩ := hT
    obtain ⟨_, cs2, hr2⟩ := hl.foot_lt (Pc.spare_foot hs)
    rw [hr] at hr2
    simp at hr2)
  have HC : Hid (∀ wr, Turned w wr p.spare → wr.cell? ⟨b, off, none⟩ = some (.slice p.ao p.n p.cap)) := hcl
  clear hl hf hy hgt hT h3 hcl ht
  obtain ⟨pa, pn, pc⟩ := p
  simp only [Pc.val] at h4 hyn hb HC
  go_enter Tryz.func77, Tryz.ntmps77
  go_wp2
  go_loopw [5, 6] (fun mv i wr => (i = .int .i64 0 ∧ mv = .slice none 0 0 ∧ wr = w) ∨ (i = .int .i64 1 ∧ ∃ mm, GrowsP w wr ⟨pa, pn, pc⟩ ys more mm ∧ ∃ g c cs, mv = .slice (some ⟨g, 0, none⟩) 1 c ∧ wr.heap[g]? = some (.cells cs 33 (0, 0)) ∧ cs[0]? = some mm)) (fun _ i _ => 1 - (intOf i).toNat)
  case atStart => exact .inl ⟨rfl, rfl, rfl⟩
  case round =>
    rcases hrel with ⟨rfl, rfl, hwr⟩ | ⟨rfl, mm, hG, g, c, cs, rfl, hr, hc0⟩
    · have hwr' := hwr.symm
      subst hwr'
      clear hwr
      go_wp2
      go_loopw [7, 8] (fun mm kk wx => ∃ t : Nat, kk = .int .i64 t ∧ t ≤ more ∧ GrowsP w wx ⟨pa, pn, pc⟩ ys t mm) (fun _ kk _ => more - (intOf kk).toNat)
      case atStart => exact ⟨0, rfl, Nat.zero_le _, [], rfl, by rw [List.append_nil]; exact Grown.start HP.out.2.2.1 HP.out.2.1, fun u hu => by simp at hu, HP.out.2.2.2.1⟩
      case round =>
        obtain ⟨t, rfl, htm, hg⟩ := hrel
        have HX : Hid (GrowsP w wr ⟨pa, pn, pc⟩ ys t u7) := hg
        clear hg
        by_cases hlt : t < more
        · have hTab : Tab wr := by obtain ⟨zs, _, h2, _⟩ := HX.out; exact HT.out wr _ h2.1 HP.out.2.2.2.2.1
          go_wp2_with fail
          refine (mark_is (-2000000) _ (by omega) (by omega) hTab).mono ?_
          rintro e w1 ⟨rfl, hb1⟩
          have hcv := run_bytes_of_string (P := Tryz.prog) w1 9 58 5 (markS (-2000000)) Tryz.underlying9 Tryz.underlying58 Tryz.underlying5
          have hms := markS_len (-2000000) (by omega) (by omega)
          have HX1 : Hid (GrowsP w w1 ⟨pa, pn, pc⟩ ys t u7) := grows_ahead HX.out ((Below.kept hb1).mono (fun k hk hs => by omega))
          clear hb1 HX hTab
          obtain ⟨zs, hzl, hG1, hm3, hm4⟩ := HX1.out
          have HZ : Hid (Grown w w1 58 ⟨pa, pn, pc⟩ u7 (ys ++ zs) ∧ Marks w1 zs (markS (-2000000)) ∧ Marks w1 ys (markS (-1000000))) := ⟨hG1, hm3, hm4⟩
          clear hG1 hm3 hm4 HX1
          have hxl : (ys ++ zs).length = pn + t := by simp [hyn, hzl]
          have HMS : Hid ((markS (-2000000)).size ≤ 210000) := hms
          go_wp2_with (at_builtin; refine wpList_more2 rfl (.tmp 27) (.tmp 32) 33 rfl 58 i0 _ 24 Tryz.underlying33 hi hz0 hz1 hz2 rfl ⟨pa, pn, pc⟩ u7 (ys ++ zs) (HZ.out.1.new (kept_two _ _ _)) HP.out.2.1 rfl (w1.heap.size + 1) 0 1 _ rfl (cell_two _ _ _ _) rfl ?b1 ?b2 ?_)
          case b1 => rw [hxl]; unfold maxLen; omega
          case b2 => rw [hxl]; omega
          intro m' w' hG' hk'
          have HN : Hid (GrowsP w w' ⟨pa, pn, pc⟩ ys (t + 1) m') := grows_step hzl (HZ.out.2.1.kept (kept_two _ _ _)) (HZ.out.2.2.kept (kept_two _ _ _)) hG' hk' ⟨seesB_two _ _ (by have := HMS.out; unfold maxLen; omega) _ _, _, _, _, rfl⟩
          clear hG' hk' HZ hcv
          go_wp2
          go_roundw
          case rel => exact ⟨t + 1, by go_num, by omega, HN.out⟩
          case measure => simp [intOf]; omega
        · obtain rfl : t = more := by omega
          obtain ⟨zs, hzl, hG1, hm3, hm4⟩ := HX.out
          obtain ⟨q, hqv, _, _, _⟩ := hG1.pc HP.out.2.1
          obtain ⟨qa, qn, qc⟩ := q
          unfold Pc.val at hqv
          simp only at hqv
          subst hqv
          clear hG1 hm3 hm4 hzl
          go_wp2_with (at_builtin; refine wpList_append_own_at _ rfl (.tmp 34) (.tmp 36) 36 rfl 0 33 i1 _ 1 24 Tryz.underlying36 gi gz0 gz1 gz2 rfl (by decide) (.slice none 0 0) 0 [] rfl (World.ownsRow_nil _ _ _ _) ⟨wr.heap.size, 0, none⟩ 1 1 [.slice qa qn qc] rfl rfl (new_cell1 _ _ _) ?one (by unfold maxLen; omega) (by omega) (Nat.zero_le _) ?_)
          case one => intro u hu; simp at hu; subst hu; rfl
          intro m' w' hown hgrow _ _
          have hk : Kept wr w' (fun _ => False) := ((Kept.refl wr _).alloc _).trans (kept_grown hgrow (fun k e => by simp [Value.ownBlock] at e)) (fun _ _ h => h)
          have HN : Hid (GrowsP w w' ⟨pa, pn, pc⟩ ys t (.slice qa qn qc)) := grows_ahead HX.out hk
          have HO : Hid (∃ g c cs, m' = .slice (some ⟨g, 0, none⟩) 1 c ∧ w'.heap[g]? = some (.cells cs 33 (0, 0)) ∧ cs[0]? = some (.slice qa qn qc)) := by
            rcases hown.2 with ⟨_, h0⟩ | ⟨g, c, cs, e, _, hr, _, _, _, ht⟩
            · omega
            · refine ⟨g, c, cs, e, hr, ?_⟩
              have : cs.toList.take 1 = [.slice qa qn qc] := by simpa using ht
              have h2 : (cs.toList.take 1)[0]? = some (.slice qa qn qc) := by rw [this]; rfl
              rw [List.getElem?_take, if_pos (by omega), Array.getElem?_toList] at h2
              exact h2
          clear hown hgrow hk HX
          go_wp2
          go_roundw
          case rel => exact .inr ⟨by go_num, _, HN.out, HO.out⟩
          case measure => simp [intOf]
    · have hTab : Tab wr := by obtain ⟨zs, _, h2, _⟩ := hG; exact HT.out wr _ h2.1 HP.out.2.2.2.2.1
      obtain ⟨zs, hzl, hG1, hm3, hm4⟩ := hG
      rename World => wo
      obtain ⟨q, hqv, hqh, hql, _⟩ := hG1.pc HP.out.2.1
      have hph : (⟨pa, pn, pc⟩ : Pc).Has wo ys := HP.out.2.2.1.turned hG1.1 (fun k x _ => by by_cases h : (⟨pa, pn, pc⟩ : Pc).spare k x; exact .inl h; exact .inr h) HP.out.2.1.le
      obtain ⟨qa, qn, qc⟩ := q
      have hqn : qn = pn + more := by have := hqh.1; simp [hyn, hzl] at this; omega
      unfold Pc.val at hqv
      simp only at hqv
      subst hqv hqn
      have e1 := HC.out wo hG1.1
      have e2 : wo.cell? ⟨g, 0, none⟩ = some (.slice qa (pn + more) qc) := by rw [cell_of_row wo g 0 cs _ _ hr]; exact hc0
      have HE : Hid (Turned w wo (⟨pa, pn, pc⟩ : Pc).spare ∧ Tab wo ∧ (⟨pa, pn, pc⟩ : Pc).Has wo ys ∧ (⟨qa, pn + more, qc⟩ : Pc).Has wo (ys ++ zs) ∧ Marks wo zs (markS (-2000000)) ∧ Marks wo ys (markS (-1000000)) ∧ wo.cell? ⟨b, off, none⟩ = some (.slice pa pn pc) ∧ wo.cell? ⟨g, 0, none⟩ = some (.slice qa (pn + more) qc)) := ⟨hG1.1, hTab, hph, hqh, hm3, hm4, e1, e2⟩
      have hgo : 1 < wo.heap.size := Nat.lt_of_lt_of_le hg0 hG1.1.size
      have HTK : Hid (∀ w', Kept wo w' (fun _ => False) → Tab w') := fun w' hk => Tab.same hTab (hk.block _ hgo (fun h => h))
      clear hG1 hTab hph hqh hql hm3 hm4 hr hc0 e1 e2
      go_wp2
      go_loopw [9] (fun i wx => (i = .int .i64 0 ∨ i = .int .i64 1) ∧ Kept wo wx (fun _ => False)) (fun i _ => 1 - (intOf i).toNat)
      case atStart => exact ⟨.inl rfl, Kept.refl _ _⟩
      case round =>
        obtain ⟨rfl | rfl, hk⟩ := hrel
        · have e1 := hk.cell HE.out.2.2.2.2.2.2.1 (fun h => h)
          have HK : Hid (Kept wo wr (fun _ => False)) := hk
          clear hk
          go_wp2
          go_loopw [11] (fun kv wx => ∃ t : Nat, kv = .int .i64 t ∧ t ≤ pn + more ∧ Kept wo wx (fun _ => False)) (fun kv _ => pn + more - (intOf kv).toNat)
          case atStart => exact ⟨0, rfl, Nat.zero_le _, HK.out⟩
          case round =>
            clear e1 HK
            obtain ⟨t, rfl, htl, hk⟩ := hrel
            have HK : Hid (Kept wo wr (fun _ => False)) := hk
            clear hk
            by_cases hlt : t < pn + more
            · by_cases hlt2 : t < pn
              · have hty : t < ys.length := by omega
                obtain ⟨pb, po, ep, cp⟩ : ∃ k o, pa = some ⟨k, o, none⟩ ∧ wo.cell? ⟨k, o + t, none⟩ = some ys[t] := by
                  rcases HE.out.2.2.1.2 with h0 | ⟨k, o, e, h⟩
                  · rw [h0] at hty; simp at hty
                  · exact ⟨k, o, e, h t hty⟩
                obtain ⟨qb, qo, eq, cq⟩ : ∃ k o, qa = some ⟨k, o, none⟩ ∧ wo.cell? ⟨k, o + t, none⟩ = some ys[t] := by
                  rcases HE.out.2.2.2.1.2 with h0 | ⟨k, o, e, h⟩
                  · have := congrArg List.length h0; rw [List.length_append] at this; simp only [List.length_nil] at this; omega
                  · exact ⟨k, o, e, by rw [h t (by rw [List.length_append]; omega), List.getElem_append_left hty]⟩
                subst ep eq
                obtain ⟨hsb, ua, un, uc, hu⟩ := HE.out.2.2.2.2.2.1 ys[t] (List.getElem_mem hty)
                rw [hu] at cp cq hsb
                have HS : Hid (∀ w', Kept wo w' (fun _ => False) → w'.cell? ⟨b, off, none⟩ = some (.slice (some ⟨pb, po, none⟩) pn pc) ∧ w'.cell? ⟨pb, po + t, none⟩ = some (.slice ua un uc) ∧ (convert 58 9 (.slice ua un uc)).run Tryz.prog w' = .ok (.string (markS (-1000000))) w' ∧ w'.cell? ⟨g, 0, none⟩ = some (.slice (some ⟨qb, qo, none⟩) (pn + more) qc) ∧ w'.cell? ⟨qb, qo + t, none⟩ = some (.slice ua un uc)) :=
                  fun w' hk => ⟨hk.cell HE.out.2.2.2.2.2.2.1 (fun h => h), hk.cell cp (fun h => h), run_textB (hsb.kept hk), hk.cell HE.out.2.2.2.2.2.2.2 (fun h => h), hk.cell cq (fun h => h)⟩
                clear cp cq hsb hu
                obtain ⟨s1, s2, s3, s4, s5⟩ := HS.out wr HK.out
                have hb1 : decide ((t : Int) < (pn : Int)) = true := by simp; omega
                have hb3 : decide (t < pn) = true := by simp; omega
                have hb2 : decide ((pn : Int) ≤ (t : Int)) = false := by simp; omega
                have hb4 : decide (pn ≤ t) = false := by simp; omega
                have hb5 : decide ((t : Int) ≥ (pn : Int)) = false := by simp; omega
                obtain ⟨r1, r2, r3, r4, r5⟩ := HS.out wr.drew (HK.out.drewN 1)
                go_upto_region 18 with fail
                go_cut [113] from 49 to 113 (fun s wx => s = .bool false ∧ Kept wo wx (fun _ => False))
                case first =>
                  refine wp_region_held_drew (S := (fun w' => w'.cell? ⟨b, off, none⟩ = some (.slice (some ⟨pb, po, none⟩) pn pc) ∧ w'.cell? ⟨pb, po + t, none⟩ = some (.slice ua un uc) ∧ (convert 58 9 (.slice ua un uc)).run Tryz.prog w' = .ok (.string (markS (-1000000))) w' ∧ w'.cell? ⟨g, 0, none⟩ = some (.slice (some ⟨qb, qo, none⟩) (pn + more) qc) ∧ w'.cell? ⟨qb, qo + t, none⟩ = some (.slice ua un uc))) (by kernel_rfl) ?_ (fun hHeld => ?_)
                  · exact ⟨r1, r2, r3, r4, r5⟩
                  refine wpAnyH_take (i := 0) (oi := { dst := some 56, op := Op.move (Operand.tmp 11), type := 3, pos := "bag.go:415", after := #[], guard := none }) (v := ?_) rfl (by kernel_rfl) (by kernel_rfl) (by kernel_rfl) (fun _ _ _ h => h) (Or.inl ⟨by rfl, ?_⟩) (by assumption) ?_
                  rotate_left
                  · (intro w hSw; (try dsimp only at hSw); go_simp) <;> with_reducible rfl
                  try simp only [Act.put, List.setIfInBounds_toArray, List.set_cons_zero, List.set_cons_succ]
                  refine wpAnyH_take (i := 1) (oi := { dst := some 57, op := Op.move (Operand.tmp 10), type := 3, pos := "bag.go:415", after := #[], guard := none }) (v := ?_) rfl (by kernel_rfl) (by kernel_rfl) (by kernel_rfl) (fun _ _ _ h => h) (Or.inl ⟨by rfl, ?_⟩) (by assumption) ?_
                  rotate_left
                  · (intro w hSw; (try dsimp only at hSw); go_simp) <;> with_reducible rfl
                  try simp only [Act.put, List.setIfInBounds_toArray, List.set_cons_zero, List.set_cons_succ]
                  refine wpAnyH_take (i := 2) (oi := { dst := some 58, op := Op.binOp BinOp.lss 3 (Operand.tmp 56) (Operand.tmp 57) 3, type := 4, pos := "bag.go:415", after := #[{ on := 0, ground := Ground.data }, { on := 1, ground := Ground.data }], guard := none }) (v := ?_) rfl (by kernel_rfl) (by kernel_rfl) (by kernel_rfl) (fun _ _ _ h => h) (Or.inl ⟨by rfl, ?_⟩) (by assumption) ?_
                  rotate_left
                  · (intro w hSw; (try dsimp only at hSw); go_simp) <;> with_reducible rfl
                  try simp only [Act.put, List.setIfInBounds_toArray, List.set_cons_zero, List.set_cons_succ]
                  refine wpAnyH_take (i := 3) (oi := { dst := some 59, op := Op.move (Operand.tmp 58), type := 4, pos := "bag.go:415", after := #[{ on := 2, ground := Ground.data }], guard := none }) (v := ?_) rfl (by kernel_rfl) (by kernel_rfl) (by kernel_rfl) (fun _ _ _ h => h) (Or.inl ⟨by rfl, ?_⟩) (by assumption) ?_
                  rotate_left
                  · (intro w hSw; (try dsimp only at hSw); go_simp) <;> with_reducible rfl
                  try simp only [Act.put, List.setIfInBounds_toArray, List.set_cons_zero, List.set_cons_succ]
                  refine wpAnyH_take (i := 4) (oi := { dst := some 60, op := Op.move (Operand.tmp 0), type := 36, pos := "bag.go:415", after := #[{ on := 3, ground := Ground.guard }], guard := some (3, true) }) (v := ?_) rfl (by kernel_rfl) (by kernel_rfl) (by kernel_rfl) (fun _ _ _ h => h) (Or.inl ⟨by rfl, ?_⟩) (by assumption) ?_
                  rotate_left
                  · (intro w hSw; (try dsimp only at hSw); go_simp) <;> with_reducible rfl
                  try simp only [Act.put, List.setIfInBounds_toArray, List.set_cons_zero, List.set_cons_succ]
                  refine wpAnyH_take (i := 5) (oi := { dst := some 61, op := Op.move (Operand.tmp 9), type := 3, pos := "bag.go:415", after := #[{ on := 3, ground := Ground.guard }], guard := some (3, true) }) (v := ?_) rfl (by kernel_rfl) (by kernel_rfl) (by kernel_rfl) (fun _ _ _ h => h) (Or.inl ⟨by rfl, ?_⟩) (by assumption) ?_
                  rotate_left
                  · (intro w hSw; (try dsimp only at hSw); go_simp) <;> with_reducible rfl
                  try simp only [Act.put, List.setIfInBounds_toArray, List.set_cons_zero, List.set_cons_succ]
                  refine wpAnyH_take (i := 6) (oi := { dst := some 62, op := Op.indexAddr 36 (Operand.tmp 60) (Operand.tmp 61), type := 0, pos := "bag.go:415", after := #[{ on := 4, ground := Ground.data }, { on := 5, ground := Ground.data }, { on := 3, ground := Ground.guard }], guard := some (3, true) }) (v := ?_) rfl (by kernel_rfl) (by kernel_rfl) (by kernel_rfl) (fun _ _ _ h => h) (Or.inl ⟨by rfl, ?_⟩) (by assumption) ?_
                  rotate_left
                  · (intro w hSw; (try dsimp only at hSw); go_simp) <;> with_reducible rfl
                  try simp only [Act.put, List.setIfInBounds_toArray, List.set_cons_zero, List.set_cons_succ]
                  refine wpAnyH_take (i := 7) (oi := { dst := some 63, op := Op.load 33 (Operand.tmp 62), type := 33, pos := "bag.go:415", after := #[{ on := 6, ground := Ground.data }, { on := 3, ground := Ground.guard }], guard := some (3, true) }) (v := ?_) rfl (by kernel_rfl) (by kernel_rfl) (by kernel_rfl) (fun _ _ _ h => h) (Or.inl ⟨by rfl, ?_⟩) (by assumption) ?_
                  rotate_left
                  · (intro w hSw; (try dsimp only at hSw); go_simp) <;> with_reducible rfl
                  try simp only [Act.put, List.setIfInBounds_toArray, List.set_cons_zero, List.set_cons_succ]
                  refine wpAnyH_take (i := 8) (oi := { dst := some 64, op := Op.move (Operand.tmp 11), type := 3, pos := "bag.go:415", after := #[{ on := 3, ground := Ground.guard }], guard := some (3, true) }) (v := ?_) rfl (by kernel_rfl) (by kernel_rfl) (by kernel_rfl) (fun _ _ _ h => h) (Or.inl ⟨by rfl, ?_⟩) (by assumption) ?_
                  rotate_left
                  · (intro w hSw; (try dsimp only at hSw); go_simp) <;> with_reducible rfl
                  try simp only [Act.put, List.setIfInBounds_toArray, List.set_cons_zero, List.set_cons_succ]
                  refine wpAnyH_take (i := 9) (oi := { dst := some 65, op := Op.indexAddr 33 (Operand.tmp 63) (Operand.tmp 64), type := 0, pos := "bag.go:415", after := #[{ on := 7, ground := Ground.data }, { on := 8, ground := Ground.data }, { on := 3, ground := Ground.guard }], guard := some (3, true) }) (v := ?_) rfl (by kernel_rfl) (by kernel_rfl) (by kernel_rfl) (fun _ _ _ h => h) (Or.inl ⟨by rfl, ?_⟩) (by assumption) ?_
                  rotate_left
                  · (intro w hSw; (try dsimp only at hSw); go_simp) <;> with_reducible rfl
                  try simp only [Act.put, List.setIfInBounds_toArray, List.set_cons_zero, List.set_cons_succ]
                  refine wpAnyH_take (i := 10) (oi := { dst := some 66, op := Op.load 58 (Operand.tmp 65), type := 58, pos := "bag.go:415", after := #[{ on := 9, ground := Ground.data }, { on := 3, ground := Ground.guard }], guard := some (3, true) }) (v := ?_) rfl (by kernel_rfl) (by kernel_rfl) (by kernel_rfl) (fun _ _ _ h => h) (Or.inl ⟨by rfl, ?_⟩) (by assumption) ?_
                  rotate_left
                  · (intro w hSw; (try dsimp only at hSw); go_simp) <;> with_reducible rfl
                  try simp only [Act.put, List.setIfInBounds_toArray, List.set_cons_zero, List.set_cons_succ]
                  refine wpAnyH_take (i := 11) (oi := { dst := some 67, op := Op.convert 58 9 (Operand.tmp 66), type := 9, pos := "bag.go:415", after := #[{ on := 10, ground := Ground.data }, { on := 3, ground := Ground.guard }], guard := some (3, true) }) (v := ?_) rfl (by kernel_rfl) (by kernel_rfl) (by kernel_rfl) (fun _ _ _ h => h) (Or.inl ⟨by rfl, ?_⟩) (by assumption) ?_
                  rotate_left
                  · (intro w hSw; (try dsimp only at hSw); go_simp) <;> with_reducible rfl
                  try simp only [Act.put, List.setIfInBounds_toArray, List.set_cons_zero, List.set_cons_succ]
                  refine wpAnyH_take (i := 12) (oi := { dst := some 68, op := Op.move (Operand.tmp 9), type := 3, pos := "bag.go:415", after := #[{ on := 3, ground := Ground.guard }], guard := some (3, true) }) (v := ?_) rfl (by kernel_rfl) (by kernel_rfl) (by kernel_rfl) (fun _ _ _ h => h) (Or.inl ⟨by rfl, ?_⟩) (by assumption) ?_
                  rotate_left
                  · (intro w hSw; (try dsimp only at hSw); go_simp) <;> with_reducible rfl
                  try simp only [Act.put, List.setIfInBounds_toArray, List.set_cons_zero, List.set_cons_succ]
                  refine wpAnyH_take (i := 13) (oi := { dst := some 69, op := Op.binOp BinOp.sub 3 (Operand.const (Value.int IntKind.i64 (-1000000))) (Operand.tmp 68) 3, type := 3, pos := "bag.go:415", after := #[{ on := 12, ground := Ground.data }, { on := 3, ground := Ground.guard }], guard := some (3, true) }) (v := ?_) rfl (by kernel_rfl) (by kernel_rfl) (by kernel_rfl) (fun _ _ _ h => h) (Or.inl ⟨by rfl, ?_⟩) (by assumption) ?_
                  rotate_left
                  · (intro w hSw; (try dsimp only at hSw); go_simp) <;> with_reducible rfl
                  try simp only [Act.put, List.setIfInBounds_toArray, List.set_cons_zero, List.set_cons_succ]
                  refine wpAnyH_ready (rs := [14]) (by kernel_rfl) (by simp) ?_
                  refine AllReadyH.cons (o := { dst := some 70, op := Op.call { callee := Callee.value (Operand.func 75), args := #[Operand.tmp 69], argTypes := #[3] }, type := 9, pos := "bag.go:415", after := #[{ on := 13, ground := Ground.data }, { on := 3, ground := Ground.chain }, { on := 3, ground := Ground.guard }], guard := some (3, true) }) rfl (fun K hK => ?_) AllReadyH.nil
                  go_simp
                  (go_wp2_with (first | (go_at_call 75; refine (mark_w (-1000000) ?_ ?_ _ (HTK.out _ (HK.out.drewN 1))).mono ?_; decide; decide; rintro e w3 ⟨rfl, hb3⟩; have HK3 : Hid (Kept wo w3 (fun _ => False)) := (HK.out.drewN 1).trans (news' hb3) (fun _ _ h => h); clear hb3)); refine hK.out _ _ (HS.out _ HK3.out) (fun hHeld3 => ?_))
                  clear hK K
                  refine wpAnyH_take (i := 15) (oi := { dst := some 71, op := Op.binOp BinOp.eql 9 (Operand.tmp 67) (Operand.tmp 70) 9, type := 4, pos := "bag.go:415", after := #[{ on := 11, ground := Ground.data }, { on := 14, ground := Ground.data }, { on := 3, ground := Ground.guard }], guard := some (3, true) }) (v := ?_) rfl (by kernel_rfl) (by kernel_rfl) (by kernel_rfl) (fun _ _ _ h => h) (Or.inl ⟨by rfl, ?_⟩) (by assumption) ?_
                  rotate_left
                  · (intro w hSw; (try dsimp only at hSw); go_simp) <;> with_reducible rfl
                  try simp only [Act.put, List.setIfInBounds_toArray, List.set_cons_zero, List.set_cons_succ]
                  refine wpAnyH_take (i := 16) (oi := { dst := some 72, op := Op.unOp UnOp.not 4 (Operand.tmp 71), type := 4, pos := "bag.go:415", after := #[{ on := 15, ground := Ground.data }, { on := 3, ground := Ground.guard }], guard := some (3, true) }) (v := ?_) rfl (by kernel_rfl) (by kernel_rfl) (by kernel_rfl) (fun _ _ _ h => h) (Or.inl ⟨by rfl, ?_⟩) (by assumption) ?_
                  rotate_left
                  · (intro w hSw; (try dsimp only at hSw); go_simp) <;> with_reducible rfl
                  try simp only [Act.put, List.setIfInBounds_toArray, List.set_cons_zero, List.set_cons_succ]
                  refine wpAnyH_take (i := 17) (oi := { dst := some 73, op := Op.pick (Operand.tmp 59) (Operand.tmp 72) (Operand.const (Value.bool false)), type := 4, pos := "bag.go:415", after := #[{ on := 3, ground := Ground.data }, { on := 16, ground := Ground.data }], guard := none }) (v := ?_) rfl (by kernel_rfl) (by kernel_rfl) (by kernel_rfl) (fun _ _ _ h => h) (Or.inl ⟨by rfl, ?_⟩) (by assumption) ?_
                  rotate_left
                  · (intro w hSw; (try dsimp only at hSw); go_simp) <;> with_reducible rfl
                  try simp only [Act.put, List.setIfInBounds_toArray, List.set_cons_zero, List.set_cons_succ]
                  refine wpAnyH_take (i := 18) (oi := { dst := some 74, op := Op.move (Operand.tmp 73), type := 4, pos := "bag.go:415", after := #[{ on := 17, ground := Ground.data }, { on := 14, ground := Ground.chain }], guard := none }) (v := ?_) rfl (by kernel_rfl) (by kernel_rfl) (by kernel_rfl) (fun _ _ _ h => h) (Or.inl ⟨by rfl, ?_⟩) (by assumption) ?_
                  rotate_left
                  · (intro w hSw; (try dsimp only at hSw); go_simp) <;> with_reducible rfl
                  try simp only [Act.put, List.setIfInBounds_toArray, List.set_cons_zero, List.set_cons_succ]
                  refine wpAnyH_take (i := 19) (oi := { dst := some 75, op := Op.move (Operand.tmp 11), type := 3, pos := "bag.go:415", after := #[{ on := 18, ground := Ground.guard }], guard := some (18, false) }) (v := ?_) rfl (by kernel_rfl) (by kernel_rfl) (by kernel_rfl) (fun _ _ _ h => h) (Or.inl ⟨by rfl, ?_⟩) (by assumption) ?_
                  rotate_left
                  · (intro w hSw; (try dsimp only at hSw); go_simp) <;> with_reducible rfl
                  try simp only [Act.put, List.setIfInBounds_toArray, List.set_cons_zero, List.set_cons_succ]
                  refine wpAnyH_take (i := 20) (oi := { dst := some 76, op := Op.move (Operand.tmp 10), type := 3, pos := "bag.go:415", after := #[{ on := 18, ground := Ground.guard }], guard := some (18, false) }) (v := ?_) rfl (by kernel_rfl) (by kernel_rfl) (by kernel_rfl) (fun _ _ _ h => h) (Or.inl ⟨by rfl, ?_⟩) (by assumption) ?_
                  rotate_left
                  · (intro w hSw; (try dsimp only at hSw); go_simp) <;> with_reducible rfl
                  try simp only [Act.put, List.setIfInBounds_toArray, List.set_cons_zero, List.set_cons_succ]
                  refine wpAnyH_take (i := 21) (oi := { dst := some 77, op := Op.binOp BinOp.lss 3 (Operand.tmp 75) (Operand.tmp 76) 3, type := 4, pos := "bag.go:415", after := #[{ on := 19, ground := Ground.data }, { on := 20, ground := Ground.data }, { on := 18, ground := Ground.guard }], guard := some (18, false) }) (v := ?_) rfl (by kernel_rfl) (by kernel_rfl) (by kernel_rfl) (fun _ _ _ h => h) (Or.inl ⟨by rfl, ?_⟩) (by assumption) ?_
                  rotate_left
                  · (intro w hSw; (try dsimp only at hSw); go_simp) <;> with_reducible rfl
                  try simp only [Act.put, List.setIfInBounds_toArray, List.set_cons_zero, List.set_cons_succ]
                  refine wpAnyH_take (i := 22) (oi := { dst := some 78, op := Op.move (Operand.tmp 77), type := 4, pos := "bag.go:415", after := #[{ on := 21, ground := Ground.data }, { on := 18, ground := Ground.chain }, { on := 18, ground := Ground.guard }], guard := some (18, false) }) (v := ?_) rfl (by kernel_rfl) (by kernel_rfl) (by kernel_rfl) (fun _ _ _ h => h) (Or.inl ⟨by rfl, ?_⟩) (by assumption) ?_
                  rotate_left
                  · (intro w hSw; (try dsimp only at hSw); go_simp) <;> with_reducible rfl
                  try simp only [Act.put, List.setIfInBounds_toArray, List.set_cons_zero, List.set_cons_succ]
                  refine wpAnyH_take (i := 23) (oi := { dst := some 79, op := Op.move (Operand.tmp 5), type := 36, pos := "bag.go:415", after := #[{ on := 22, ground := Ground.guard }], guard := some (22, true) }) (v := ?_) rfl (by kernel_rfl) (by kernel_rfl) (by kernel_rfl) (fun _ _ _ h => h) (Or.inl ⟨by rfl, ?_⟩) (by assumption) ?_
                  rotate_left
                  · (intro w hSw; (try dsimp only at hSw); go_simp) <;> with_reducible rfl
                  try simp only [Act.put, List.setIfInBounds_toArray, List.set_cons_zero, List.set_cons_succ]
                  refine wpAnyH_take (i := 24) (oi := { dst := some 80, op := Op.move (Operand.tmp 9), type := 3, pos := "bag.go:415", after := #[{ on := 22, ground := Ground.guard }], guard := some (22, true) }) (v := ?_) rfl (by kernel_rfl) (by kernel_rfl) (by kernel_rfl) (fun _ _ _ h => h) (Or.inl ⟨by rfl, ?_⟩) (by assumption) ?_
                  rotate_left
                  · (intro w hSw; (try dsimp only at hSw); go_simp) <;> with_reducible rfl
                  try simp only [Act.put, List.setIfInBounds_toArray, List.set_cons_zero, List.set_cons_succ]
                  refine wpAnyH_take (i := 25) (oi := { dst := some 81, op := Op.indexAddr 36 (Operand.tmp 79) (Operand.tmp 80), type := 0, pos := "bag.go:415", after := #[{ on := 23, ground := Ground.data }, { on := 24, ground := Ground.data }, { on := 22, ground := Ground.guard }], guard := some (22, true) }) (v := ?_) rfl (by kernel_rfl) (by kernel_rfl) (by kernel_rfl) (fun _ _ _ h => h) (Or.inl ⟨by rfl, ?_⟩) (by assumption) ?_
                  rotate_left
                  · (intro w hSw; (try dsimp only at hSw); go_simp) <;> with_reducible rfl
                  try simp only [Act.put, List.setIfInBounds_toArray, List.set_cons_zero, List.set_cons_succ]
                  refine wpAnyH_take (i := 26) (oi := { dst := some 82, op := Op.load 33 (Operand.tmp 81), type := 33, pos := "bag.go:415", after := #[{ on := 25, ground := Ground.data }, { on := 22, ground := Ground.guard }], guard := some (22, true) }) (v := ?_) rfl (by kernel_rfl) (by kernel_rfl) (by kernel_rfl) (fun _ _ _ h => h) (Or.inl ⟨by rfl, ?_⟩) (by assumption) ?_
                  rotate_left
                  · (intro w hSw; (try dsimp only at hSw); go_simp) <;> with_reducible rfl
                  try simp only [Act.put, List.setIfInBounds_toArray, List.set_cons_zero, List.set_cons_succ]
                  refine wpAnyH_take (i := 27) (oi := { dst := some 83, op := Op.move (Operand.tmp 11), type := 3, pos := "bag.go:415", after := #[{ on := 22, ground := Ground.guard }], guard := some (22, true) }) (v := ?_) rfl (by kernel_rfl) (by kernel_rfl) (by kernel_rfl) (fun _ _ _ h => h) (Or.inl ⟨by rfl, ?_⟩) (by assumption) ?_
                  rotate_left
                  · (intro w hSw; (try dsimp only at hSw); go_simp) <;> with_reducible rfl
                  try simp only [Act.put, List.setIfInBounds_toArray, List.set_cons_zero, List.set_cons_succ]
                  refine wpAnyH_take (i := 28) (oi := { dst := some 84, op := Op.indexAddr 33 (Operand.tmp 82) (Operand.tmp 83), type := 0, pos := "bag.go:415", after := #[{ on := 26, ground := Ground.data }, { on := 27, ground := Ground.data }, { on := 22, ground := Ground.guard }], guard := some (22, true) }) (v := ?_) rfl (by kernel_rfl) (by kernel_rfl) (by kernel_rfl) (fun _ _ _ h => h) (Or.inl ⟨by rfl, ?_⟩) (by assumption) ?_
                  rotate_left
                  · (intro w hSw; (try dsimp only at hSw); go_simp) <;> with_reducible rfl
                  try simp only [Act.put, List.setIfInBounds_toArray, List.set_cons_zero, List.set_cons_succ]
                  refine wpAnyH_take (i := 29) (oi := { dst := some 85, op := Op.load 58 (Operand.tmp 84), type := 58, pos := "bag.go:415", after := #[{ on := 28, ground := Ground.data }, { on := 22, ground := Ground.guard }], guard := some (22, true) }) (v := ?_) rfl (by kernel_rfl) (by kernel_rfl) (by kernel_rfl) (fun _ _ _ h => h) (Or.inl ⟨by rfl, ?_⟩) (by assumption) ?_
                  rotate_left
                  · (intro w hSw; (try dsimp only at hSw); go_simp) <;> with_reducible rfl
                  try simp only [Act.put, List.setIfInBounds_toArray, List.set_cons_zero, List.set_cons_succ]
                  refine wpAnyH_take (i := 30) (oi := { dst := some 86, op := Op.convert 58 9 (Operand.tmp 85), type := 9, pos := "bag.go:415", after := #[{ on := 29, ground := Ground.data }, { on := 22, ground := Ground.guard }], guard := some (22, true) }) (v := ?_) rfl (by kernel_rfl) (by kernel_rfl) (by kernel_rfl) (fun _ _ _ h => h) (Or.inl ⟨by rfl, ?_⟩) (by assumption) ?_
                  rotate_left
                  · (intro w hSw; (try dsimp only at hSw); go_simp) <;> with_reducible rfl
                  try simp only [Act.put, List.setIfInBounds_toArray, List.set_cons_zero, List.set_cons_succ]
                  refine wpAnyH_take (i := 31) (oi := { dst := some 87, op := Op.move (Operand.tmp 9), type := 3, pos := "bag.go:415", after := #[{ on := 22, ground := Ground.guard }], guard := some (22, true) }) (v := ?_) rfl (by kernel_rfl) (by kernel_rfl) (by kernel_rfl) (fun _ _ _ h => h) (Or.inl ⟨by rfl, ?_⟩) (by assumption) ?_
                  rotate_left
                  · (intro w hSw; (try dsimp only at hSw); go_simp) <;> with_reducible rfl
                  try simp only [Act.put, List.setIfInBounds_toArray, List.set_cons_zero, List.set_cons_succ]
                  refine wpAnyH_take (i := 32) (oi := { dst := some 88, op := Op.binOp BinOp.sub 3 (Operand.const (Value.int IntKind.i64 (-1000000))) (Operand.tmp 87) 3, type := 3, pos := "bag.go:415", after := #[{ on := 31, ground := Ground.data }, { on := 22, ground := Ground.guard }], guard := some (22, true) }) (v := ?_) rfl (by kernel_rfl) (by kernel_rfl) (by kernel_rfl) (fun _ _ _ h => h) (Or.inl ⟨by rfl, ?_⟩) (by assumption) ?_
                  rotate_left
                  · (intro w hSw; (try dsimp only at hSw); go_simp) <;> with_reducible rfl
                  try simp only [Act.put, List.setIfInBounds_toArray, List.set_cons_zero, List.set_cons_succ]
                  refine wpAnyH_ready (rs := [33]) (by kernel_rfl) (by simp) ?_
                  refine AllReadyH.cons (o := { dst := some 89, op := Op.call { callee := Callee.value (Operand.func 75), args := #[Operand.tmp 88], argTypes := #[3] }, type := 9, pos := "bag.go:415", after := #[{ on := 32, ground := Ground.data }, { on := 22, ground := Ground.chain }, { on := 22, ground := Ground.guard }], guard := some (22, true) }) rfl (fun K hK => ?_) AllReadyH.nil
                  go_simp
                  (go_wp2_with (first | (go_at_call 75; refine (mark_w (-1000000) ?_ ?_ _ (HTK.out _ (HK3.out))).mono ?_; decide; decide; rintro e w4 ⟨rfl, hb4⟩; have HK4 : Hid (Kept wo w4 (fun _ => False)) := (HK3.out).trans (news' hb4) (fun _ _ h => h); clear hb4)); refine hK.out _ _ (HS.out _ HK4.out) (fun hHeld4 => ?_))
                  clear hK K
                  refine wpAnyH_take (i := 34) (oi := { dst := some 90, op := Op.binOp BinOp.eql 9 (Operand.tmp 86) (Operand.tmp 89) 9, type := 4, pos := "bag.go:415", after := #[{ on := 30, ground := Ground.data }, { on := 33, ground := Ground.data }, { on := 22, ground := Ground.guard }], guard := some (22, true) }) (v := ?_) rfl (by kernel_rfl) (by kernel_rfl) (by kernel_rfl) (fun _ _ _ h => h) (Or.inl ⟨by rfl, ?_⟩) (by assumption) ?_
                  rotate_left
                  · (intro w hSw; (try dsimp only at hSw); go_simp) <;> with_reducible rfl
                  try simp only [Act.put, List.setIfInBounds_toArray, List.set_cons_zero, List.set_cons_succ]
                  refine wpAnyH_take (i := 35) (oi := { dst := some 91, op := Op.unOp UnOp.not 4 (Operand.tmp 90), type := 4, pos := "bag.go:415", after := #[{ on := 34, ground := Ground.data }, { on := 22, ground := Ground.guard }], guard := some (22, true) }) (v := ?_) rfl (by kernel_rfl) (by kernel_rfl) (by kernel_rfl) (fun _ _ _ h => h) (Or.inl ⟨by rfl, ?_⟩) (by assumption) ?_
                  rotate_left
                  · (intro w hSw; (try dsimp only at hSw); go_simp) <;> with_reducible rfl
                  try simp only [Act.put, List.setIfInBounds_toArray, List.set_cons_zero, List.set_cons_succ]
                  refine wpAnyH_take (i := 36) (oi := { dst := some 92, op := Op.pick (Operand.tmp 78) (Operand.tmp 91) (Operand.const (Value.bool false)), type := 4, pos := "bag.go:415", after := #[{ on := 22, ground := Ground.data }, { on := 35, ground := Ground.data }, { on := 18, ground := Ground.guard }], guard := some (18, false) }) (v := ?_) rfl (by kernel_rfl) (by kernel_rfl) (by kernel_rfl) (fun _ _ _ h => h) (Or.inl ⟨by rfl, ?_⟩) (by assumption) ?_
                  rotate_left
                  · (intro w hSw; (try dsimp only at hSw); go_simp) <;> with_reducible rfl
                  try simp only [Act.put, List.setIfInBounds_toArray, List.set_cons_zero, List.set_cons_succ]
                  refine wpAnyH_take (i := 37) (oi := { dst := some 93, op := Op.pick (Operand.tmp 74) (Operand.const (Value.bool true)) (Operand.tmp 92), type := 4, pos := "bag.go:415", after := #[{ on := 18, ground := Ground.data }, { on := 36, ground := Ground.data }], guard := none }) (v := ?_) rfl (by kernel_rfl) (by kernel_rfl) (by kernel_rfl) (fun _ _ _ h => h) (Or.inl ⟨by rfl, ?_⟩) (by assumption) ?_
                  rotate_left
                  · (intro w hSw; (try dsimp only at hSw); go_simp) <;> with_reducible rfl
                  try simp only [Act.put, List.setIfInBounds_toArray, List.set_cons_zero, List.set_cons_succ]
                  refine wpAnyH_take (i := 38) (oi := { dst := some 94, op := Op.move (Operand.tmp 93), type := 4, pos := "bag.go:415", after := #[{ on := 37, ground := Ground.data }, { on := 33, ground := Ground.chain }], guard := none }) (v := ?_) rfl (by kernel_rfl) (by kernel_rfl) (by kernel_rfl) (fun _ _ _ h => h) (Or.inl ⟨by rfl, ?_⟩) (by assumption) ?_
                  rotate_left
                  · (intro w hSw; (try dsimp only at hSw); go_simp) <;> with_reducible rfl
                  try simp only [Act.put, List.setIfInBounds_toArray, List.set_cons_zero, List.set_cons_succ]
                  refine wpAnyH_take (i := 39) (oi := { dst := some 95, op := Op.move (Operand.tmp 11), type := 3, pos := "bag.go:415", after := #[{ on := 38, ground := Ground.guard }], guard := some (38, false) }) (v := ?_) rfl (by kernel_rfl) (by kernel_rfl) (by kernel_rfl) (fun _ _ _ h => h) (Or.inl ⟨by rfl, ?_⟩) (by assumption) ?_
                  rotate_left
                  · (intro w hSw; (try dsimp only at hSw); go_simp) <;> with_reducible rfl
                  try simp only [Act.put, List.setIfInBounds_toArray, List.set_cons_zero, List.set_cons_succ]
                  refine wpAnyH_take (i := 40) (oi := { dst := some 96, op := Op.move (Operand.tmp 10), type := 3, pos := "bag.go:415", after := #[{ on := 38, ground := Ground.guard }], guard := some (38, false) }) (v := ?_) rfl (by kernel_rfl) (by kernel_rfl) (by kernel_rfl) (fun _ _ _ h => h) (Or.inl ⟨by rfl, ?_⟩) (by assumption) ?_
                  rotate_left
                  · (intro w hSw; (try dsimp only at hSw); go_simp) <;> with_reducible rfl
                  try simp only [Act.put, List.setIfInBounds_toArray, List.set_cons_zero, List.set_cons_succ]
                  refine wpAnyH_take (i := 41) (oi := { dst := some 97, op := Op.binOp BinOp.geq 3 (Operand.tmp 95) (Operand.tmp 96) 3, type := 4, pos := "bag.go:415", after := #[{ on := 39, ground := Ground.data }, { on := 40, ground := Ground.data }, { on := 38, ground := Ground.guard }], guard := some (38, false) }) (v := ?_) rfl (by kernel_rfl) (by kernel_rfl) (by kernel_rfl) (fun _ _ _ h => h) (Or.inl ⟨by rfl, ?_⟩) (by assumption) ?_
                  rotate_left
                  · (intro w hSw; (try dsimp only at hSw); go_simp) <;> with_reducible rfl
                  try simp only [Act.put, List.setIfInBounds_toArray, List.set_cons_zero, List.set_cons_succ]
                  refine wpAnyH_take (i := 42) (oi := { dst := some 98, op := Op.move (Operand.tmp 97), type := 4, pos := "bag.go:415", after := #[{ on := 41, ground := Ground.data }, { on := 38, ground := Ground.chain }, { on := 38, ground := Ground.guard }], guard := some (38, false) }) (v := ?_) rfl (by kernel_rfl) (by kernel_rfl) (by kernel_rfl) (fun _ _ _ h => h) (Or.inl ⟨by rfl, ?_⟩) (by assumption) ?_
                  rotate_left
                  · (intro w hSw; (try dsimp only at hSw); go_simp) <;> with_reducible rfl
                  try simp only [Act.put, List.setIfInBounds_toArray, List.set_cons_zero, List.set_cons_succ]
                  refine wpAnyH_take (i := 43) (oi := { dst := some 99, op := Op.move (Operand.tmp 5), type := 36, pos := "bag.go:415", after := #[{ on := 42, ground := Ground.guard }], guard := some (42, true) }) (v := undef) rfl (by kernel_rfl) (by kernel_rfl) (by kernel_rfl) (fun _ _ _ h => h) (Or.inr ⟨by rfl, rfl⟩) (by assumption) ?_
                  try simp only [Act.put, List.setIfInBounds_toArray, List.set_cons_zero, List.set_cons_succ]
                  refine wpAnyH_take (i := 44) (oi := { dst := some 100, op := Op.move (Operand.tmp 9), type := 3, pos := "bag.go:415", after := #[{ on := 42, ground := Ground.guard }], guard := some (42, true) }) (v := undef) rfl (by kernel_rfl) (by kernel_rfl) (by kernel_rfl) (fun _ _ _ h => h) (Or.inr ⟨by rfl, rfl⟩) (by assumption) ?_
                  try simp only [Act.put, List.setIfInBounds_toArray, List.set_cons_zero, List.set_cons_succ]
                  refine wpAnyH_take (i := 45) (oi := { dst := some 101, op := Op.indexAddr 36 (Operand.tmp 99) (Operand.tmp 100), type := 0, pos := "bag.go:415", after := #[{ on := 43, ground := Ground.data }, { on := 44, ground := Ground.data }, { on := 42, ground := Ground.guard }], guard := some (42, true) }) (v := undef) rfl (by kernel_rfl) (by kernel_rfl) (by kernel_rfl) (fun _ _ _ h => h) (Or.inr ⟨by rfl, rfl⟩) (by assumption) ?_
                  try simp only [Act.put, List.setIfInBounds_toArray, List.set_cons_zero, List.set_cons_succ]
                  refine wpAnyH_take (i := 46) (oi := { dst := some 102, op := Op.load 33 (Operand.tmp 101), type := 33, pos := "bag.go:415", after := #[{ on := 45, ground := Ground.data }, { on := 42, ground := Ground.guard }], guard := some (42, true) }) (v := undef) rfl (by kernel_rfl) (by kernel_rfl) (by kernel_rfl) (fun _ _ _ h => h) (Or.inr ⟨by rfl, rfl⟩) (by assumption) ?_
                  try simp only [Act.put, List.setIfInBounds_toArray, List.set_cons_zero, List.set_cons_succ]
                  refine wpAnyH_take (i := 47) (oi := { dst := some 103, op := Op.move (Operand.tmp 11), type := 3, pos := "bag.go:415", after := #[{ on := 42, ground := Ground.guard }], guard := some (42, true) }) (v := undef) rfl (by kernel_rfl) (by kernel_rfl) (by kernel_rfl) (fun _ _ _ h => h) (Or.inr ⟨by rfl, rfl⟩) (by assumption) ?_
                  try simp only [Act.put, List.setIfInBounds_toArray, List.set_cons_zero, List.set_cons_succ]
                  refine wpAnyH_take (i := 48) (oi := { dst := some 104, op := Op.indexAddr 33 (Operand.tmp 102) (Operand.tmp 103), type := 0, pos := "bag.go:415", after := #[{ on := 46, ground := Ground.data }, { on := 47, ground := Ground.data }, { on := 42, ground := Ground.guard }], guard := some (42, true) }) (v := undef) rfl (by kernel_rfl) (by kernel_rfl) (by kernel_rfl) (fun _ _ _ h => h) (Or.inr ⟨by rfl, rfl⟩) (by assumption) ?_
                  try simp only [Act.put, List.setIfInBounds_toArray, List.set_cons_zero, List.set_cons_succ]
                  refine wpAnyH_take (i := 49) (oi := { dst := some 105, op := Op.load 58 (Operand.tmp 104), type := 58, pos := "bag.go:415", after := #[{ on := 48, ground := Ground.data }, { on := 42, ground := Ground.guard }], guard := some (42, true) }) (v := undef) rfl (by kernel_rfl) (by kernel_rfl) (by kernel_rfl) (fun _ _ _ h => h) (Or.inr ⟨by rfl, rfl⟩) (by assumption) ?_
                  try simp only [Act.put, List.setIfInBounds_toArray, List.set_cons_zero, List.set_cons_succ]
                  refine wpAnyH_take (i := 50) (oi := { dst := some 106, op := Op.convert 58 9 (Operand.tmp 105), type := 9, pos := "bag.go:415", after := #[{ on := 49, ground := Ground.data }, { on := 42, ground := Ground.guard }], guard := some (42, true) }) (v := undef) rfl (by kernel_rfl) (by kernel_rfl) (by kernel_rfl) (fun _ _ _ h => h) (Or.inr ⟨by rfl, rfl⟩) (by assumption) ?_
                  try simp only [Act.put, List.setIfInBounds_toArray, List.set_cons_zero, List.set_cons_succ]
                  refine wpAnyH_take (i := 51) (oi := { dst := some 107, op := Op.move (Operand.tmp 9), type := 3, pos := "bag.go:415", after := #[{ on := 42, ground := Ground.guard }], guard := some (42, true) }) (v := undef) rfl (by kernel_rfl) (by kernel_rfl) (by kernel_rfl) (fun _ _ _ h => h) (Or.inr ⟨by rfl, rfl⟩) (by assumption) ?_
                  try simp only [Act.put, List.setIfInBounds_toArray, List.set_cons_zero, List.set_cons_succ]
                  refine wpAnyH_take (i := 52) (oi := { dst := some 108, op := Op.binOp BinOp.sub 3 (Operand.const (Value.int IntKind.i64 (-2000000))) (Operand.tmp 107) 3, type := 3, pos := "bag.go:415", after := #[{ on := 51, ground := Ground.data }, { on := 42, ground := Ground.guard }], guard := some (42, true) }) (v := undef) rfl (by kernel_rfl) (by kernel_rfl) (by kernel_rfl) (fun _ _ _ h => h) (Or.inr ⟨by rfl, rfl⟩) (by assumption) ?_
                  try simp only [Act.put, List.setIfInBounds_toArray, List.set_cons_zero, List.set_cons_succ]
                  refine wpAnyH_ready (rs := [53]) (by kernel_rfl) (by simp) ?_
                  refine AllReadyH.cons (o := { dst := some 109, op := Op.call { callee := Callee.value (Operand.func 75), args := #[Operand.tmp 108], argTypes := #[3] }, type := 9, pos := "bag.go:415", after := #[{ on := 52, ground := Ground.data }, { on := 42, ground := Ground.chain }, { on := 42, ground := Ground.guard }], guard := some (42, true) }) rfl (fun K hK => ?_) AllReadyH.nil
                  go_simp
                  refine hK.out _ _ (by assumption) (fun _ => ?_)
                  clear hK K
                  refine wpAnyH_take (i := 54) (oi := { dst := some 110, op := Op.binOp BinOp.eql 9 (Operand.tmp 106) (Operand.tmp 109) 9, type := 4, pos := "bag.go:415", after := #[{ on := 50, ground := Ground.data }, { on := 53, ground := Ground.data }, { on := 42, ground := Ground.guard }], guard := some (42, true) }) (v := undef) rfl (by kernel_rfl) (by kernel_rfl) (by kernel_rfl) (fun _ _ _ h => h) (Or.inr ⟨by rfl, rfl⟩) (by assumption) ?_
                  try simp only [Act.put, List.setIfInBounds_toArray, List.set_cons_zero, List.set_cons_succ]
                  refine wpAnyH_take (i := 55) (oi := { dst := some 111, op := Op.unOp UnOp.not 4 (Operand.tmp 110), type := 4, pos := "bag.go:415", after := #[{ on := 54, ground := Ground.data }, { on := 42, ground := Ground.guard }], guard := some (42, true) }) (v := undef) rfl (by kernel_rfl) (by kernel_rfl) (by kernel_rfl) (fun _ _ _ h => h) (Or.inr ⟨by rfl, rfl⟩) (by assumption) ?_
                  try simp only [Act.put, List.setIfInBounds_toArray, List.set_cons_zero, List.set_cons_succ]
                  refine wpAnyH_take (i := 56) (oi := { dst := some 112, op := Op.pick (Operand.tmp 98) (Operand.tmp 111) (Operand.const (Value.bool false)), type := 4, pos := "bag.go:415", after := #[{ on := 42, ground := Ground.data }, { on := 55, ground := Ground.data }, { on := 38, ground := Ground.guard }], guard := some (38, false) }) (v := ?_) rfl (by kernel_rfl) (by kernel_rfl) (by kernel_rfl) (fun _ _ _ h => h) (Or.inl ⟨by rfl, ?_⟩) (by assumption) ?_
                  rotate_left
                  · (intro w hSw; (try dsimp only at hSw); go_simp) <;> with_reducible rfl
                  try simp only [Act.put, List.setIfInBounds_toArray, List.set_cons_zero, List.set_cons_succ]
                  refine wpAnyH_take (i := 57) (oi := { dst := some 113, op := Op.pick (Operand.tmp 94) (Operand.const (Value.bool true)) (Operand.tmp 112), type := 4, pos := "bag.go:415", after := #[{ on := 38, ground := Ground.data }, { on := 56, ground := Ground.data }], guard := none }) (v := ?_) rfl (by kernel_rfl) (by kernel_rfl) (by kernel_rfl) (fun _ _ _ h => h) (Or.inl ⟨by rfl, ?_⟩) (by assumption) ?_
                  rotate_left
                  · (intro w hSw; (try dsimp only at hSw); go_simp) <;> with_reducible rfl
                  try simp only [Act.put, List.setIfInBounds_toArray, List.set_cons_zero, List.set_cons_succ]
                  refine wpAnyH_done (by kernel_rfl) ?_ _
                  all_goals (go_wp2_with fail)
                  all_goals go_meet
                  all_goals exact ⟨rfl, HK4.out⟩
                case rest =>
                  obtain ⟨rfl, hk⟩ := hcut
                  have HKc : Hid (Kept wo wc (fun _ => False)) := hk
                  clear hk s1 s2 s3 s4 s5 r1 r2 r3 r4 r5 HK HS
                  go_wp2
                  go_roundw
                  case rel => exact ⟨t + 1, by go_num, by omega, HKc.out⟩
                  case measure => simp [intOf]; omega
              · have htz : t - pn < zs.length := by omega
                obtain ⟨qb, qo, eq, cq⟩ : ∃ k o, qa = some ⟨k, o, none⟩ ∧ wo.cell? ⟨k, o + t, none⟩ = some zs[t - pn] := by
                  rcases HE.out.2.2.2.1.2 with h0 | ⟨k, o, e, h⟩
                  · have := congrArg List.length h0; rw [List.length_append] at this; simp only [List.length_nil] at this; omega
                  · refine ⟨k, o, e, ?_⟩
                    rw [h t (by rw [List.length_append]; omega), List.getElem_append_right (by omega)]
                    simp only [hyn]
                subst eq
                obtain ⟨hsb, ua, un, uc, hu⟩ := HE.out.2.2.2.2.1 zs[t - pn] (List.getElem_mem htz)
                rw [hu] at cq hsb
                have HS : Hid (∀ w', Kept wo w' (fun _ => False) → w'.cell? ⟨b, off, none⟩ = some (.slice pa pn pc) ∧ (convert 58 9 (.slice ua un uc)).run Tryz.prog w' = .ok (.string (markS (-2000000))) w' ∧ w'.cell? ⟨g, 0, none⟩ = some (.slice (some ⟨qb, qo, none⟩) (pn + more) qc) ∧ w'.cell? ⟨qb, qo + t, none⟩ = some (.slice ua un uc)) :=
                  fun w' hk => ⟨hk.cell HE.out.2.2.2.2.2.2.1 (fun h => h), run_textB (hsb.kept hk), hk.cell HE.out.2.2.2.2.2.2.2 (fun h => h), hk.cell cq (fun h => h)⟩
                clear cq hsb hu
                obtain ⟨s1, s3, s4, s5⟩ := HS.out wr HK.out
                have hb1 : decide ((t : Int) < (pn : Int)) = false := by simp; omega
                have hb3 : decide (t < pn) = false := by simp; omega
                have hb2 : decide ((pn : Int) ≤ (t : Int)) = true := by simp; omega
                have hb4 : decide (pn ≤ t) = true := by simp; omega
                have hb5 : decide ((t : Int) ≥ (pn : Int)) = true := by simp; omega
                obtain ⟨r1, r3, r4, r5⟩ := HS.out wr.drew (HK.out.drewN 1)
                go_upto_region 18 with fail
                go_cut [113] from 49 to 113 (fun s wx => s = .bool false ∧ Kept wo wx (fun _ => False))
                case first =>
                  refine wp_region_held_drew (S := (fun w' => w'.cell? ⟨b, off, none⟩ = some (.slice pa pn pc) ∧ (convert 58 9 (.slice ua un uc)).run Tryz.prog w' = .ok (.string (markS (-2000000))) w' ∧ w'.cell? ⟨g, 0, none⟩ = some (.slice (some ⟨qb, qo, none⟩) (pn + more) qc) ∧ w'.cell? ⟨qb, qo + t, none⟩ = some (.slice ua un uc))) (by kernel_rfl) ?_ (fun hHeld => ?_)
                  · exact ⟨r1, r3, r4, r5⟩
                  refine wpAnyH_take (i := 0) (oi := { dst := some 56, op := Op.move (Operand.tmp 11), type := 3, pos := "bag.go:415", after := #[], guard := none }) (v := ?_) rfl (by kernel_rfl) (by kernel_rfl) (by kernel_rfl) (fun _ _ _ h => h) (Or.inl ⟨by rfl, ?_⟩) (by assumption) ?_
                  rotate_left
                  · (intro w hSw; (try dsimp only at hSw); go_simp) <;> with_reducible rfl
                  try simp only [Act.put, List.setIfInBounds_toArray, List.set_cons_zero, List.set_cons_succ]
                  refine wpAnyH_take (i := 1) (oi := { dst := some 57, op := Op.move (Operand.tmp 10), type := 3, pos := "bag.go:415", after := #[], guard := none }) (v := ?_) rfl (by kernel_rfl) (by kernel_rfl) (by kernel_rfl) (fun _ _ _ h => h) (Or.inl ⟨by rfl, ?_⟩) (by assumption) ?_
                  rotate_left
                  · (intro w hSw; (try dsimp only at hSw); go_simp) <;> with_reducible rfl
                  try simp only [Act.put, List.setIfInBounds_toArray, List.set_cons_zero, List.set_cons_succ]
                  refine wpAnyH_take (i := 2) (oi := { dst := some 58, op := Op.binOp BinOp.lss 3 (Operand.tmp 56) (Operand.tmp 57) 3, type := 4, pos := "bag.go:415", after := #[{ on := 0, ground := Ground.data }, { on := 1, ground := Ground.data }], guard := none }) (v := ?_) rfl (by kernel_rfl) (by kernel_rfl) (by kernel_rfl) (fun _ _ _ h => h) (Or.inl ⟨by rfl, ?_⟩) (by assumption) ?_
                  rotate_left
                  · (intro w hSw; (try dsimp only at hSw); go_simp) <;> with_reducible rfl
                  try simp only [Act.put, List.setIfInBounds_toArray, List.set_cons_zero, List.set_cons_succ]
                  refine wpAnyH_take (i := 3) (oi := { dst := some 59, op := Op.move (Operand.tmp 58), type := 4, pos := "bag.go:415", after := #[{ on := 2, ground := Ground.data }], guard := none }) (v := ?_) rfl (by kernel_rfl) (by kernel_rfl) (by kernel_rfl) (fun _ _ _ h => h) (Or.inl ⟨by rfl, ?_⟩) (by assumption) ?_
                  rotate_left
                  · (intro w hSw; (try dsimp only at hSw); go_simp) <;> with_reducible rfl
                  try simp only [Act.put, List.setIfInBounds_toArray, List.set_cons_zero, List.set_cons_succ]
                  refine wpAnyH_take (i := 4) (oi := { dst := some 60, op := Op.move (Operand.tmp 0), type := 36, pos := "bag.go:415", after := #[{ on := 3, ground := Ground.guard }], guard := some (3, true) }) (v := undef) rfl (by kernel_rfl) (by kernel_rfl) (by kernel_rfl) (fun _ _ _ h => h) (Or.inr ⟨by rfl, rfl⟩) (by assumption) ?_
                  try simp only [Act.put, List.setIfInBounds_toArray, List.set_cons_zero, List.set_cons_succ]
                  refine wpAnyH_take (i := 5) (oi := { dst := some 61, op := Op.move (Operand.tmp 9), type := 3, pos := "bag.go:415", after := #[{ on := 3, ground := Ground.guard }], guard := some (3, true) }) (v := undef) rfl (by kernel_rfl) (by kernel_rfl) (by kernel_rfl) (fun _ _ _ h => h) (Or.inr ⟨by rfl, rfl⟩) (by assumption) ?_
                  try simp only [Act.put, List.setIfInBounds_toArray, List.set_cons_zero, List.set_cons_succ]
                  refine wpAnyH_take (i := 6) (oi := { dst := some 62, op := Op.indexAddr 36 (Operand.tmp 60) (Operand.tmp 61), type := 0, pos := "bag.go:415", after := #[{ on := 4, ground := Ground.data }, { on := 5, ground := Ground.data }, { on := 3, ground := Ground.guard }], guard := some (3, true) }) (v := undef) rfl (by kernel_rfl) (by kernel_rfl) (by kernel_rfl) (fun _ _ _ h => h) (Or.inr ⟨by rfl, rfl⟩) (by assumption) ?_
                  try simp only [Act.put, List.setIfInBounds_toArray, List.set_cons_zero, List.set_cons_succ]
                  refine wpAnyH_take (i := 7) (oi := { dst := some 63, op := Op.load 33 (Operand.tmp 62), type := 33, pos := "bag.go:415", after := #[{ on := 6, ground := Ground.data }, { on := 3, ground := Ground.guard }], guard := some (3, true) }) (v := undef) rfl (by kernel_rfl) (by kernel_rfl) (by kernel_rfl) (fun _ _ _ h => h) (Or.inr ⟨by rfl, rfl⟩) (by assumption) ?_
                  try simp only [Act.put, List.setIfInBounds_toArray, List.set_cons_zero, List.set_cons_succ]
                  refine wpAnyH_take (i := 8) (oi := { dst := some 64, op := Op.move (Operand.tmp 11), type := 3, pos := "bag.go:415", after := #[{ on := 3, ground := Ground.guard }], guard := some (3, true) }) (v := undef) rfl (by kernel_rfl) (by kernel_rfl) (by kernel_rfl) (fun _ _ _ h => h) (Or.inr ⟨by rfl, rfl⟩) (by assumption) ?_
                  try simp only [Act.put, List.setIfInBounds_toArray, List.set_cons_zero, List.set_cons_succ]
                  refine wpAnyH_take (i := 9) (oi := { dst := some 65, op := Op.indexAddr 33 (Operand.tmp 63) (Operand.tmp 64), type := 0, pos := "bag.go:415", after := #[{ on := 7, ground := Ground.data }, { on := 8, ground := Ground.data }, { on := 3, ground := Ground.guard }], guard := some (3, true) }) (v := undef) rfl (by kernel_rfl) (by kernel_rfl) (by kernel_rfl) (fun _ _ _ h => h) (Or.inr ⟨by rfl, rfl⟩) (by assumption) ?_
                  try simp only [Act.put, List.setIfInBounds_toArray, List.set_cons_zero, List.set_cons_succ]
                  refine wpAnyH_take (i := 10) (oi := { dst := some 66, op := Op.load 58 (Operand.tmp 65), type := 58, pos := "bag.go:415", after := #[{ on := 9, ground := Ground.data }, { on := 3, ground := Ground.guard }], guard := some (3, true) }) (v := undef) rfl (by kernel_rfl) (by kernel_rfl) (by kernel_rfl) (fun _ _ _ h => h) (Or.inr ⟨by rfl, rfl⟩) (by assumption) ?_
                  try simp only [Act.put, List.setIfInBounds_toArray, List.set_cons_zero, List.set_cons_succ]
                  refine wpAnyH_take (i := 11) (oi := { dst := some 67, op := Op.convert 58 9 (Operand.tmp 66), type := 9, pos := "bag.go:415", after := #[{ on := 10, ground := Ground.data }, { on := 3, ground := Ground.guard }], guard := some (3, true) }) (v := undef) rfl (by kernel_rfl) (by kernel_rfl) (by kernel_rfl) (fun _ _ _ h => h) (Or.inr ⟨by rfl, rfl⟩) (by assumption) ?_
                  try simp only [Act.put, List.setIfInBounds_toArray, List.set_cons_zero, List.set_cons_succ]
                  refine wpAnyH_take (i := 12) (oi := { dst := some 68, op := Op.move (Operand.tmp 9), type := 3, pos := "bag.go:415", after := #[{ on := 3, ground := Ground.guard }], guard := some (3, true) }) (v := undef) rfl (by kernel_rfl) (by kernel_rfl) (by kernel_rfl) (fun _ _ _ h => h) (Or.inr ⟨by rfl, rfl⟩) (by assumption) ?_
                  try simp only [Act.put, List.setIfInBounds_toArray, List.set_cons_zero, List.set_cons_succ]
                  refine wpAnyH_take (i := 13) (oi := { dst := some 69, op := Op.binOp BinOp.sub 3 (Operand.const (Value.int IntKind.i64 (-1000000))) (Operand.tmp 68) 3, type := 3, pos := "bag.go:415", after := #[{ on := 12, ground := Ground.data }, { on := 3, ground := Ground.guard }], guard := some (3, true) }) (v := undef) rfl (by kernel_rfl) (by kernel_rfl) (by kernel_rfl) (fun _ _ _ h => h) (Or.inr ⟨by rfl, rfl⟩) (by assumption) ?_
                  try simp only [Act.put, List.setIfInBounds_toArray, List.set_cons_zero, List.set_cons_succ]
                  refine wpAnyH_ready (rs := [14]) (by kernel_rfl) (by simp) ?_
                  refine AllReadyH.cons (o := { dst := some 70, op := Op.call { callee := Callee.value (Operand.func 75), args := #[Operand.tmp 69], argTypes := #[3] }, type := 9, pos := "bag.go:415", after := #[{ on := 13, ground := Ground.data }, { on := 3, ground := Ground.chain }, { on := 3, ground := Ground.guard }], guard := some (3, true) }) rfl (fun K hK => ?_) AllReadyH.nil
                  go_simp
                  refine hK.out _ _ (by assumption) (fun _ => ?_)
                  clear hK K
                  refine wpAnyH_take (i := 15) (oi := { dst := some 71, op := Op.binOp BinOp.eql 9 (Operand.tmp 67) (Operand.tmp 70) 9, type := 4, pos := "bag.go:415", after := #[{ on := 11, ground := Ground.data }, { on := 14, ground := Ground.data }, { on := 3, ground := Ground.guard }], guard := some (3, true) }) (v := undef) rfl (by kernel_rfl) (by kernel_rfl) (by kernel_rfl) (fun _ _ _ h => h) (Or.inr ⟨by rfl, rfl⟩) (by assumption) ?_
                  try simp only [Act.put, List.setIfInBounds_toArray, List.set_cons_zero, List.set_cons_succ]
                  refine wpAnyH_take (i := 16) (oi := { dst := some 72, op := Op.unOp UnOp.not 4 (Operand.tmp 71), type := 4, pos := "bag.go:415", after := #[{ on := 15, ground := Ground.data }, { on := 3, ground := Ground.guard }], guard := some (3, true) }) (v := undef) rfl (by kernel_rfl) (by kernel_rfl) (by kernel_rfl) (fun _ _ _ h => h) (Or.inr ⟨by rfl, rfl⟩) (by assumption) ?_
                  try simp only [Act.put, List.setIfInBounds_toArray, List.set_cons_zero, List.set_cons_succ]
                  refine wpAnyH_take (i := 17) (oi := { dst := some 73, op := Op.pick (Operand.tmp 59) (Operand.tmp 72) (Operand.const (Value.bool false)), type := 4, pos := "bag.go:415", after := #[{ on := 3, ground := Ground.data }, { on := 16, ground := Ground.data }], guard := none }) (v := ?_) rfl (by kernel_rfl) (by kernel_rfl) (by kernel_rfl) (fun _ _ _ h => h) (Or.inl ⟨by rfl, ?_⟩) (by assumption) ?_
                  rotate_left
                  · (intro w hSw; (try dsimp only at hSw); go_simp) <;> with_reducible rfl
                  try simp only [Act.put, List.setIfInBounds_toArray, List.set_cons_zero, List.set_cons_succ]
                  refine wpAnyH_take (i := 18) (oi := { dst := some 74, op := Op.move (Operand.tmp 73), type := 4, pos := "bag.go:415", after := #[{ on := 17, ground := Ground.data }, { on := 14, ground := Ground.chain }], guard := none }) (v := ?_) rfl (by kernel_rfl) (by kernel_rfl) (by kernel_rfl) (fun _ _ _ h => h) (Or.inl ⟨by rfl, ?_⟩) (by assumption) ?_
                  rotate_left
                  · (intro w hSw; (try dsimp only at hSw); go_simp) <;> with_reducible rfl
                  try simp only [Act.put, List.setIfInBounds_toArray, List.set_cons_zero, List.set_cons_succ]
                  refine wpAnyH_take (i := 19) (oi := { dst := some 75, op := Op.move (Operand.tmp 11), type := 3, pos := "bag.go:415", after := #[{ on := 18, ground := Ground.guard }], guard := some (18, false) }) (v := ?_) rfl (by kernel_rfl) (by kernel_rfl) (by kernel_rfl) (fun _ _ _ h => h) (Or.inl ⟨by rfl, ?_⟩) (by assumption) ?_
                  rotate_left
                  · (intro w hSw; (try dsimp only at hSw); go_simp) <;> with_reducible rfl
                  try simp only [Act.put, List.setIfInBounds_toArray, List.set_cons_zero, List.set_cons_succ]
                  refine wpAnyH_take (i := 20) (oi := { dst := some 76, op := Op.move (Operand.tmp 10), type := 3, pos := "bag.go:415", after := #[{ on := 18, ground := Ground.guard }], guard := some (18, false) }) (v := ?_) rfl (by kernel_rfl) (by kernel_rfl) (by kernel_rfl) (fun _ _ _ h => h) (Or.inl ⟨by rfl, ?_⟩) (by assumption) ?_
                  rotate_left
                  · (intro w hSw; (try dsimp only at hSw); go_simp) <;> with_reducible rfl
                  try simp only [Act.put, List.setIfInBounds_toArray, List.set_cons_zero, List.set_cons_succ]
                  refine wpAnyH_take (i := 21) (oi := { dst := some 77, op := Op.binOp BinOp.lss 3 (Operand.tmp 75) (Operand.tmp 76) 3, type := 4, pos := "bag.go:415", after := #[{ on := 19, ground := Ground.data }, { on := 20, ground := Ground.data }, { on := 18, ground := Ground.guard }], guard := some (18, false) }) (v := ?_) rfl (by kernel_rfl) (by kernel_rfl) (by kernel_rfl) (fun _ _ _ h => h) (Or.inl ⟨by rfl, ?_⟩) (by assumption) ?_
                  rotate_left
                  · (intro w hSw; (try dsimp only at hSw); go_simp) <;> with_reducible rfl
                  try simp only [Act.put, List.setIfInBounds_toArray, List.set_cons_zero, List.set_cons_succ]
                  refine wpAnyH_take (i := 22) (oi := { dst := some 78, op := Op.move (Operand.tmp 77), type := 4, pos := "bag.go:415", after := #[{ on := 21, ground := Ground.data }, { on := 18, ground := Ground.chain }, { on := 18, ground := Ground.guard }], guard := some (18, false) }) (v := ?_) rfl (by kernel_rfl) (by kernel_rfl) (by kernel_rfl) (fun _ _ _ h => h) (Or.inl ⟨by rfl, ?_⟩) (by assumption) ?_
                  rotate_left
                  · (intro w hSw; (try dsimp only at hSw); go_simp) <;> with_reducible rfl
                  try simp only [Act.put, List.setIfInBounds_toArray, List.set_cons_zero, List.set_cons_succ]
                  refine wpAnyH_take (i := 23) (oi := { dst := some 79, op := Op.move (Operand.tmp 5), type := 36, pos := "bag.go:415", after := #[{ on := 22, ground := Ground.guard }], guard := some (22, true) }) (v := undef) rfl (by kernel_rfl) (by kernel_rfl) (by kernel_rfl) (fun _ _ _ h => h) (Or.inr ⟨by rfl, rfl⟩) (by assumption) ?_
                  try simp only [Act.put, List.setIfInBounds_toArray, List.set_cons_zero, List.set_cons_succ]
                  refine wpAnyH_take (i := 24) (oi := { dst := some 80, op := Op.move (Operand.tmp 9), type := 3, pos := "bag.go:415", after := #[{ on := 22, ground := Ground.guard }], guard := some (22, true) }) (v := undef) rfl (by kernel_rfl) (by kernel_rfl) (by kernel_rfl) (fun _ _ _ h => h) (Or.inr ⟨by rfl, rfl⟩) (by assumption) ?_
                  try simp only [Act.put, List.setIfInBounds_toArray, List.set_cons_zero, List.set_cons_succ]
                  refine wpAnyH_take (i := 25) (oi := { dst := some 81, op := Op.indexAddr 36 (Operand.tmp 79) (Operand.tmp 80), type := 0, pos := "bag.go:415", after := #[{ on := 23, ground := Ground.data }, { on := 24, ground := Ground.data }, { on := 22, ground := Ground.guard }], guard := some (22, true) }) (v := undef) rfl (by kernel_rfl) (by kernel_rfl) (by kernel_rfl) (fun _ _ _ h => h) (Or.inr ⟨by rfl, rfl⟩) (by assumption) ?_
                  try simp only [Act.put, List.setIfInBounds_toArray, List.set_cons_zero, List.set_cons_succ]
                  refine wpAnyH_take (i := 26) (oi := { dst := some 82, op := Op.load 33 (Operand.tmp 81), type := 33, pos := "bag.go:415", after := #[{ on := 25, ground := Ground.data }, { on := 22, ground := Ground.guard }], guard := some (22, true) }) (v := undef) rfl (by kernel_rfl) (by kernel_rfl) (by kernel_rfl) (fun _ _ _ h => h) (Or.inr ⟨by rfl, rfl⟩) (by assumption) ?_
                  try simp only [Act.put, List.setIfInBounds_toArray, List.set_cons_zero, List.set_cons_succ]
                  refine wpAnyH_take (i := 27) (oi := { dst := some 83, op := Op.move (Operand.tmp 11), type := 3, pos := "bag.go:415", after := #[{ on := 22, ground := Ground.guard }], guard := some (22, true) }) (v := undef) rfl (by kernel_rfl) (by kernel_rfl) (by kernel_rfl) (fun _ _ _ h => h) (Or.inr ⟨by rfl, rfl⟩) (by assumption) ?_
                  try simp only [Act.put, List.setIfInBounds_toArray, List.set_cons_zero, List.set_cons_succ]
                  refine wpAnyH_take (i := 28) (oi := { dst := some 84, op := Op.indexAddr 33 (Operand.tmp 82) (Operand.tmp 83), type := 0, pos := "bag.go:415", after := #[{ on := 26, ground := Ground.data }, { on := 27, ground := Ground.data }, { on := 22, ground := Ground.guard }], guard := some (22, true) }) (v := undef) rfl (by kernel_rfl) (by kernel_rfl) (by kernel_rfl) (fun _ _ _ h => h) (Or.inr ⟨by rfl, rfl⟩) (by assumption) ?_
                  try simp only [Act.put, List.setIfInBounds_toArray, List.set_cons_zero, List.set_cons_succ]
                  refine wpAnyH_take (i := 29) (oi := { dst := some 85, op := Op.load 58 (Operand.tmp 84), type := 58, pos := "bag.go:415", after := #[{ on := 28, ground := Ground.data }, { on := 22, ground := Ground.guard }], guard := some (22, true) }) (v := undef) rfl (by kernel_rfl) (by kernel_rfl) (by kernel_rfl) (fun _ _ _ h => h) (Or.inr ⟨by rfl, rfl⟩) (by assumption) ?_
                  try simp only [Act.put, List.setIfInBounds_toArray, List.set_cons_zero, List.set_cons_succ]
                  refine wpAnyH_take (i := 30) (oi := { dst := some 86, op := Op.convert 58 9 (Operand.tmp 85), type := 9, pos := "bag.go:415", after := #[{ on := 29, ground := Ground.data }, { on := 22, ground := Ground.guard }], guard := some (22, true) }) (v := undef) rfl (by kernel_rfl) (by kernel_rfl) (by kernel_rfl) (fun _ _ _ h => h) (Or.inr ⟨by rfl, rfl⟩) (by assumption) ?_
                  try simp only [Act.put, List.setIfInBounds_toArray, List.set_cons_zero, List.set_cons_succ]
                  refine wpAnyH_take (i := 31) (oi := { dst := some 87, op := Op.move (Operand.tmp 9), type := 3, pos := "bag.go:415", after := #[{ on := 22, ground := Ground.guard }], guard := some (22, true) }) (v := undef) rfl (by kernel_rfl) (by kernel_rfl) (by kernel_rfl) (fun _ _ _ h => h) (Or.inr ⟨by rfl, rfl⟩) (by assumption) ?_
                  try simp only [Act.put, List.setIfInBounds_toArray, List.set_cons_zero, List.set_cons_succ]
                  refine wpAnyH_take (i := 32) (oi := { dst := some 88, op := Op.binOp BinOp.sub 3 (Operand.const (Value.int IntKind.i64 (-1000000))) (Operand.tmp 87) 3, type := 3, pos := "bag.go:415", after := #[{ on := 31, ground := Ground.data }, { on := 22, ground := Ground.guard }], guard := some (22, true) }) (v := undef) rfl (by kernel_rfl) (by kernel_rfl) (by kernel_rfl) (fun _ _ _ h => h) (Or.inr ⟨by rfl, rfl⟩) (by assumption) ?_
                  try simp only [Act.put, List.setIfInBounds_toArray, List.set_cons_zero, List.set_cons_succ]
                  refine wpAnyH_ready (rs := [33]) (by kernel_rfl) (by simp) ?_
                  refine AllReadyH.cons (o := { dst := some 89, op := Op.call { callee := Callee.value (Operand.func 75), args := #[Operand.tmp 88], argTypes := #[3] }, type := 9, pos := "bag.go:415", after := #[{ on := 32, ground := Ground.data }, { on := 22, ground := Ground.chain }, { on := 22, ground := Ground.guard }], guard := some (22, true) }) rfl (fun K hK => ?_) AllReadyH.nil
                  go_simp
                  refine hK.out _ _ (by assumption) (fun _ => ?_)
                  clear hK K
                  refine wpAnyH_take (i := 34) (oi := { dst := some 90, op := Op.binOp BinOp.eql 9 (Operand.tmp 86) (Operand.tmp 89) 9, type := 4, pos := "bag.go:415", after := #[{ on := 30, ground := Ground.data }, { on := 33, ground := Ground.data }, { on := 22, ground := Ground.guard }], guard := some (22, true) }) (v := undef) rfl (by kernel_rfl) (by kernel_rfl) (by kernel_rfl) (fun _ _ _ h => h) (Or.inr ⟨by rfl, rfl⟩) (by assumption) ?_
                  try simp only [Act.put, List.setIfInBounds_toArray, List.set_cons_zero, List.set_cons_succ]
                  refine wpAnyH_take (i := 35) (oi := { dst := some 91, op := Op.unOp UnOp.not 4 (Operand.tmp 90), type := 4, pos := "bag.go:415", after := #[{ on := 34, ground := Ground.data }, { on := 22, ground := Ground.guard }], guard := some (22, true) }) (v := undef) rfl (by kernel_rfl) (by kernel_rfl) (by kernel_rfl) (fun _ _ _ h => h) (Or.inr ⟨by rfl, rfl⟩) (by assumption) ?_
                  try simp only [Act.put, List.setIfInBounds_toArray, List.set_cons_zero, List.set_cons_succ]
                  refine wpAnyH_take (i := 36) (oi := { dst := some 92, op := Op.pick (Operand.tmp 78) (Operand.tmp 91) (Operand.const (Value.bool false)), type := 4, pos := "bag.go:415", after := #[{ on := 22, ground := Ground.data }, { on := 35, ground := Ground.data }, { on := 18, ground := Ground.guard }], guard := some (18, false) }) (v := ?_) rfl (by kernel_rfl) (by kernel_rfl) (by kernel_rfl) (fun _ _ _ h => h) (Or.inl ⟨by rfl, ?_⟩) (by assumption) ?_
                  rotate_left
                  · (intro w hSw; (try dsimp only at hSw); go_simp) <;> with_reducible rfl
                  try simp only [Act.put, List.setIfInBounds_toArray, List.set_cons_zero, List.set_cons_succ]
                  refine wpAnyH_take (i := 37) (oi := { dst := some 93, op := Op.pick (Operand.tmp 74) (Operand.const (Value.bool true)) (Operand.tmp 92), type := 4, pos := "bag.go:415", after := #[{ on := 18, ground := Ground.data }, { on := 36, ground := Ground.data }], guard := none }) (v := ?_) rfl (by kernel_rfl) (by kernel_rfl) (by kernel_rfl) (fun _ _ _ h => h) (Or.inl ⟨by rfl, ?_⟩) (by assumption) ?_
                  rotate_left
                  · (intro w hSw; (try dsimp only at hSw); go_simp) <;> with_reducible rfl
                  try simp only [Act.put, List.setIfInBounds_toArray, List.set_cons_zero, List.set_cons_succ]
                  refine wpAnyH_take (i := 38) (oi := { dst := some 94, op := Op.move (Operand.tmp 93), type := 4, pos := "bag.go:415", after := #[{ on := 37, ground := Ground.data }, { on := 33, ground := Ground.chain }], guard := none }) (v := ?_) rfl (by kernel_rfl) (by kernel_rfl) (by kernel_rfl) (fun _ _ _ h => h) (Or.inl ⟨by rfl, ?_⟩) (by assumption) ?_
                  rotate_left
                  · (intro w hSw; (try dsimp only at hSw); go_simp) <;> with_reducible rfl
                  try simp only [Act.put, List.setIfInBounds_toArray, List.set_cons_zero, List.set_cons_succ]
                  refine wpAnyH_take (i := 39) (oi := { dst := some 95, op := Op.move (Operand.tmp 11), type := 3, pos := "bag.go:415", after := #[{ on := 38, ground := Ground.guard }], guard := some (38, false) }) (v := ?_) rfl (by kernel_rfl) (by kernel_rfl) (by kernel_rfl) (fun _ _ _ h => h) (Or.inl ⟨by rfl, ?_⟩) (by assumption) ?_
                  rotate_left
                  · (intro w hSw; (try dsimp only at hSw); go_simp) <;> with_reducible rfl
                  try simp only [Act.put, List.setIfInBounds_toArray, List.set_cons_zero, List.set_cons_succ]
                  refine wpAnyH_take (i := 40) (oi := { dst := some 96, op := Op.move (Operand.tmp 10), type := 3, pos := "bag.go:415", after := #[{ on := 38, ground := Ground.guard }], guard := some (38, false) }) (v := ?_) rfl (by kernel_rfl) (by kernel_rfl) (by kernel_rfl) (fun _ _ _ h => h) (Or.inl ⟨by rfl, ?_⟩) (by assumption) ?_
                  rotate_left
                  · (intro w hSw; (try dsimp only at hSw); go_simp) <;> with_reducible rfl
                  try simp only [Act.put, List.setIfInBounds_toArray, List.set_cons_zero, List.set_cons_succ]
                  refine wpAnyH_take (i := 41) (oi := { dst := some 97, op := Op.binOp BinOp.geq 3 (Operand.tmp 95) (Operand.tmp 96) 3, type := 4, pos := "bag.go:415", after := #[{ on := 39, ground := Ground.data }, { on := 40, ground := Ground.data }, { on := 38, ground := Ground.guard }], guard := some (38, false) }) (v := ?_) rfl (by kernel_rfl) (by kernel_rfl) (by kernel_rfl) (fun _ _ _ h => h) (Or.inl ⟨by rfl, ?_⟩) (by assumption) ?_
                  rotate_left
                  · (intro w hSw; (try dsimp only at hSw); go_simp) <;> with_reducible rfl
                  try simp only [Act.put, List.setIfInBounds_toArray, List.set_cons_zero, List.set_cons_succ]
                  refine wpAnyH_take (i := 42) (oi := { dst := some 98, op := Op.move (Operand.tmp 97), type := 4, pos := "bag.go:415", after := #[{ on := 41, ground := Ground.data }, { on := 38, ground := Ground.chain }, { on := 38, ground := Ground.guard }], guard := some (38, false) }) (v := ?_) rfl (by kernel_rfl) (by kernel_rfl) (by kernel_rfl) (fun _ _ _ h => h) (Or.inl ⟨by rfl, ?_⟩) (by assumption) ?_
                  rotate_left
                  · (intro w hSw; (try dsimp only at hSw); go_simp) <;> with_reducible rfl
                  try simp only [Act.put, List.setIfInBounds_toArray, List.set_cons_zero, List.set_cons_succ]
                  refine wpAnyH_take (i := 43) (oi := { dst := some 99, op := Op.move (Operand.tmp 5), type := 36, pos := "bag.go:415", after := #[{ on := 42, ground := Ground.guard }], guard := some (42, true) }) (v := ?_) rfl (by kernel_rfl) (by kernel_rfl) (by kernel_rfl) (fun _ _ _ h => h) (Or.inl ⟨by rfl, ?_⟩) (by assumption) ?_
                  rotate_left
                  · (intro w hSw; (try dsimp only at hSw); go_simp) <;> with_reducible rfl
                  try simp only [Act.put, List.setIfInBounds_toArray, List.set_cons_zero, List.set_cons_succ]
                  refine wpAnyH_take (i := 44) (oi := { dst := some 100, op := Op.move (Operand.tmp 9), type := 3, pos := "bag.go:415", after := #[{ on := 42, ground := Ground.guard }], guard := some (42, true) }) (v := ?_) rfl (by kernel_rfl) (by kernel_rfl) (by kernel_rfl) (fun _ _ _ h => h) (Or.inl ⟨by rfl, ?_⟩) (by assumption) ?_
                  rotate_left
                  · (intro w hSw; (try dsimp only at hSw); go_simp) <;> with_reducible rfl
                  try simp only [Act.put, List.setIfInBounds_toArray, List.set_cons_zero, List.set_cons_succ]
                  refine wpAnyH_take (i := 45) (oi := { dst := some 101, op := Op.indexAddr 36 (Operand.tmp 99) (Operand.tmp 100), type := 0, pos := "bag.go:415", after := #[{ on := 43, ground := Ground.data }, { on := 44, ground := Ground.data }, { on := 42, ground := Ground.guard }], guard := some (42, true) }) (v := ?_) rfl (by kernel_rfl) (by kernel_rfl) (by kernel_rfl) (fun _ _ _ h => h) (Or.inl ⟨by rfl, ?_⟩) (by assumption) ?_
                  rotate_left
                  · (intro w hSw; (try dsimp only at hSw); go_simp) <;> with_reducible rfl
                  try simp only [Act.put, List.setIfInBounds_toArray, List.set_cons_zero, List.set_cons_succ]
                  refine wpAnyH_take (i := 46) (oi := { dst := some 102, op := Op.load 33 (Operand.tmp 101), type := 33, pos := "bag.go:415", after := #[{ on := 45, ground := Ground.data }, { on := 42, ground := Ground.guard }], guard := some (42, true) }) (v := ?_) rfl (by kernel_rfl) (by kernel_rfl) (by kernel_rfl) (fun _ _ _ h => h) (Or.inl ⟨by rfl, ?_⟩) (by assumption) ?_
                  rotate_left
                  · (intro w hSw; (try dsimp only at hSw); go_simp) <;> with_reducible rfl
                  try simp only [Act.put, List.setIfInBounds_toArray, List.set_cons_zero, List.set_cons_succ]
                  refine wpAnyH_take (i := 47) (oi := { dst := some 103, op := Op.move (Operand.tmp 11), type := 3, pos := "bag.go:415", after := #[{ on := 42, ground := Ground.guard }], guard := some (42, true) }) (v := ?_) rfl (by kernel_rfl) (by kernel_rfl) (by kernel_rfl) (fun _ _ _ h => h) (Or.inl ⟨by rfl, ?_⟩) (by assumption) ?_
                  rotate_left
                  · (intro w hSw; (try dsimp only at hSw); go_simp) <;> with_reducible rfl
                  try simp only [Act.put, List.setIfInBounds_toArray, List.set_cons_zero, List.set_cons_succ]
                  refine wpAnyH_take (i := 48) (oi := { dst := some 104, op := Op.indexAddr 33 (Operand.tmp 102) (Operand.tmp 103), type := 0, pos := "bag.go:415", after := #[{ on := 46, ground := Ground.data }, { on := 47, ground := Ground.data }, { on := 42, ground := Ground.guard }], guard := some (42, true) }) (v := ?_) rfl (by kernel_rfl) (by kernel_rfl) (by kernel_rfl) (fun _ _ _ h => h) (Or.inl ⟨by rfl, ?_⟩) (by assumption) ?_
                  rotate_left
                  · (intro w hSw; (try dsimp only at hSw); go_simp) <;> with_reducible rfl
                  try simp only [Act.put, List.setIfInBounds_toArray, List.set_cons_zero, List.set_cons_succ]
                  refine wpAnyH_take (i := 49) (oi := { dst := some 105, op := Op.load 58 (Operand.tmp 104), type := 58, pos := "bag.go:415", after := #[{ on := 48, ground := Ground.data }, { on := 42, ground := Ground.guard }], guard := some (42, true) }) (v := ?_) rfl (by kernel_rfl) (by kernel_rfl) (by kernel_rfl) (fun _ _ _ h => h) (Or.inl ⟨by rfl, ?_⟩) (by assumption) ?_
                  rotate_left
                  · (intro w hSw; (try dsimp only at hSw); go_simp) <;> with_reducible rfl
                  try simp only [Act.put, List.setIfInBounds_toArray, List.set_cons_zero, List.set_cons_succ]
                  refine wpAnyH_take (i := 50) (oi := { dst := some 106, op := Op.convert 58 9 (Operand.tmp 105), type := 9, pos := "bag.go:415", after := #[{ on := 49, ground := Ground.data }, { on := 42, ground := Ground.guard }], guard := some (42, true) }) (v := ?_) rfl (by kernel_rfl) (by kernel_rfl) (by kernel_rfl) (fun _ _ _ h => h) (Or.inl ⟨by rfl, ?_⟩) (by assumption) ?_
                  rotate_left
                  · (intro w hSw; (try dsimp only at hSw); go_simp) <;> with_reducible rfl
                  try simp only [Act.put, List.setIfInBounds_toArray, List.set_cons_zero, List.set_cons_succ]
                  refine wpAnyH_take (i := 51) (oi := { dst := some 107, op := Op.move (Operand.tmp 9), type := 3, pos := "bag.go:415", after := #[{ on := 42, ground := Ground.guard }], guard := some (42, true) }) (v := ?_) rfl (by kernel_rfl) (by kernel_rfl) (by kernel_rfl) (fun _ _ _ h => h) (Or.inl ⟨by rfl, ?_⟩) (by assumption) ?_
                  rotate_left
                  · (intro w hSw; (try dsimp only at hSw); go_simp) <;> with_reducible rfl
                  try simp only [Act.put, List.setIfInBounds_toArray, List.set_cons_zero, List.set_cons_succ]
                  refine wpAnyH_take (i := 52) (oi := { dst := some 108, op := Op.binOp BinOp.sub 3 (Operand.const (Value.int IntKind.i64 (-2000000))) (Operand.tmp 107) 3, type := 3, pos := "bag.go:415", after := #[{ on := 51, ground := Ground.data }, { on := 42, ground := Ground.guard }], guard := some (42, true) }) (v := ?_) rfl (by kernel_rfl) (by kernel_rfl) (by kernel_rfl) (fun _ _ _ h => h) (Or.inl ⟨by rfl, ?_⟩) (by assumption) ?_
                  rotate_left
                  · (intro w hSw; (try dsimp only at hSw); go_simp) <;> with_reducible rfl
                  try simp only [Act.put, List.setIfInBounds_toArray, List.set_cons_zero, List.set_cons_succ]
                  refine wpAnyH_ready (rs := [53]) (by kernel_rfl) (by simp) ?_
                  refine AllReadyH.cons (o := { dst := some 109, op := Op.call { callee := Callee.value (Operand.func 75), args := #[Operand.tmp 108], argTypes := #[3] }, type := 9, pos := "bag.go:415", after := #[{ on := 52, ground := Ground.data }, { on := 42, ground := Ground.chain }, { on := 42, ground := Ground.guard }], guard := some (42, true) }) rfl (fun K hK => ?_) AllReadyH.nil
                  go_simp
                  (go_wp2_with (first | (go_at_call 75; refine (mark_w (-2000000) ?_ ?_ _ (HTK.out _ (HK.out.drewN 1))).mono ?_; decide; decide; rintro e w3 ⟨rfl, hb3⟩; have HK3 : Hid (Kept wo w3 (fun _ => False)) := (HK.out.drewN 1).trans (news' hb3) (fun _ _ h => h); clear hb3)); refine hK.out _ _ (HS.out _ HK3.out) (fun hHeld3 => ?_))
                  clear hK K
                  refine wpAnyH_take (i := 54) (oi := { dst := some 110, op := Op.binOp BinOp.eql 9 (Operand.tmp 106) (Operand.tmp 109) 9, type := 4, pos := "bag.go:415", after := #[{ on := 50, ground := Ground.data }, { on := 53, ground := Ground.data }, { on := 42, ground := Ground.guard }], guard := some (42, true) }) (v := ?_) rfl (by kernel_rfl) (by kernel_rfl) (by kernel_rfl) (fun _ _ _ h => h) (Or.inl ⟨by rfl, ?_⟩) (by assumption) ?_
                  rotate_left
                  · (intro w hSw; (try dsimp only at hSw); go_simp) <;> with_reducible rfl
                  try simp only [Act.put, List.setIfInBounds_toArray, List.set_cons_zero, List.set_cons_succ]
                  refine wpAnyH_take (i := 55) (oi := { dst := some 111, op := Op.unOp UnOp.not 4 (Operand.tmp 110), type := 4, pos := "bag.go:415", after := #[{ on := 54, ground := Ground.data }, { on := 42, ground := Ground.guard }], guard := some (42, true) }) (v := ?_) rfl (by kernel_rfl) (by kernel_rfl) (by kernel_rfl) (fun _ _ _ h => h) (Or.inl ⟨by rfl, ?_⟩) (by assumption) ?_
                  rotate_left
                  · (intro w hSw; (try dsimp only at hSw); go_simp) <;> with_reducible rfl
                  try simp only [Act.put, List.setIfInBounds_toArray, List.set_cons_zero, List.set_cons_succ]
                  refine wpAnyH_take (i := 56) (oi := { dst := some 112, op := Op.pick (Operand.tmp 98) (Operand.tmp 111) (Operand.const (Value.bool false)), type := 4, pos := "bag.go:415", after := #[{ on := 42, ground := Ground.data }, { on := 55, ground := Ground.data }, { on := 38, ground := Ground.guard }], guard := some (38, false) }) (v := ?_) rfl (by kernel_rfl) (by kernel_rfl) (by kernel_rfl) (fun _ _ _ h => h) (Or.inl ⟨by rfl, ?_⟩) (by assumption) ?_
                  rotate_left
                  · (intro w hSw; (try dsimp only at hSw); go_simp) <;> with_reducible rfl
                  try simp only [Act.put, List.setIfInBounds_toArray, List.set_cons_zero, List.set_cons_succ]
                  refine wpAnyH_take (i := 57) (oi := { dst := some 113, op := Op.pick (Operand.tmp 94) (Operand.const (Value.bool true)) (Operand.tmp 112), type := 4, pos := "bag.go:415", after := #[{ on := 38, ground := Ground.data }, { on := 56, ground := Ground.data }], guard := none }) (v := ?_) rfl (by kernel_rfl) (by kernel_rfl) (by kernel_rfl) (fun _ _ _ h => h) (Or.inl ⟨by rfl, ?_⟩) (by assumption) ?_
                  rotate_left
                  · (intro w hSw; (try dsimp only at hSw); go_simp) <;> with_reducible rfl
                  try simp only [Act.put, List.setIfInBounds_toArray, List.set_cons_zero, List.set_cons_succ]
                  refine wpAnyH_done (by kernel_rfl) ?_ _
                  all_goals (go_wp2_with fail)
                  all_goals go_meet
                  all_goals exact ⟨rfl, HK3.out⟩
                case rest =>
                  obtain ⟨rfl, hk⟩ := hcut
                  have HKc : Hid (Kept wo wc (fun _ => False)) := hk
                  clear hk s1 s3 s4 s5 r1 r3 r4 r5 HK HS
                  go_wp2
                  go_roundw
                  case rel => exact ⟨t + 1, by go_num, by omega, HKc.out⟩
                  case measure => simp [intOf]; omega
            · obtain rfl : t = pn + more := by omega
              go_wp2
              go_roundw
              case rel => exact ⟨.inr (by go_num), HK.out⟩
              case measure => simp [intOf]
        · go_wp2
          go_ret
          exact ⟨rfl, HE.out.1.new hk⟩
end Go.Proofs.YtbdokdhconhifaaGreatDoor
