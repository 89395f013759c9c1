/- The walk of PackBack: for every list of calls it answers true. -/
import Derived.Test.YtmjcpcpcngpdjaaShell
import Derived.Test.YtmjcpcpcngpdjaaSaid
import Derived.Deep.QuietTactic
import Derived.BigQuiet
import Derived.Deep.RegionWith
namespace Go.Proofs.Ytmjcpcpcngpdjaa
open Go.ChangeShapes Go.WideShapes Go.ChangeAt Go.RowKit
namespace packBack
set_option linter.unusedVariables false

theorem SeesOp.below {B : Nat} {w w' : World} {b off : Nat} {o : OpD} (h : SeesOp w b off o) (hb : Below B w w') (hB : w.heap.size ≤ B) : SeesOp w' b off o :=
  ⟨cell_later h.c0 hb hB, cell_later h.c1 hb hB, cell_later h.c2 hb hB, cell_later h.c3 hb hB, cell_later h.c4 hb hB, cell_later h.c5 hb hB, h.sb, h.yb⟩

theorem SeesOps.below {B : Nat} {w w' : World} {v : Value} {os : List OpD} (h : SeesOps w v os) (hb : Below B w w') (hB : w.heap.size ≤ B) : SeesOps w' v os := by
  obtain ⟨ao, cap, rfl, h1, h2, h3⟩ := h
  refine ⟨ao, cap, rfl, h1, h2, ?_⟩
  rcases h3 with h3 | ⟨b, off, rfl, h3⟩
  · exact .inl h3
  · exact .inr ⟨b, off, rfl, fun i hi => SeesOp.below (h3 i hi) hb hB⟩

theorem enc_len (kind n : Int) (x : Nat) (s : ByteArray) (ys : List Int) : (encOf kind n x s ys).length ≤ 8 * (1 + s.size + ys.length) := by
  unfold encOf
  have h4 : ∀ m, (be4 m).length = 4 := fun _ => rfl
  have h8 : ∀ m, (be8 m).length = 8 := fun _ => rfl
  split <;> simp [h4, h8, txt_len] <;> omega

theorem encs_len (sd : List OpD) : (encs sd).length ≤ 8 * opSum sd := by
  induction sd with
  | nil => simp [encs]
  | cons o r ih =>
    rw [encs_cons, List.length_append]
    have := enc_len o.kind o.n o.x o.s o.ys
    simp only [opSum, OpD.size]
    omega

theorem byts_be4 (m : Int) (h0 : 0 ≤ m) (h1 : m < 4294967296) : Byts (be4 m) := by
  intro y hy
  simp only [be4, List.mem_cons, List.not_mem_nil, or_false] at hy
  rcases hy with rfl | rfl | rfl | rfl <;> omega

theorem byts_be8 (m : Int) (h0 : 0 ≤ m) (h1 : m < 18446744073709551616) : Byts (be8 m) :=
  (byts_be4 _ (by omega) (by omega)).append (byts_be4 _ (by omega) (by omega))

theorem enc_byts (kind n : Int) (x : Nat) (s : ByteArray) (ys : List Int) (hf : Fits n x s ys) (hb : Byts ys) : Byts (encOf kind n x s ys) := by
  have h1 := hf.s1
  have h2 := hf.y1
  have h3 := bitsOf_lt x hf.x1
  have h4 := up64_bd n
  unfold encOf
  split
  · intro y hy
    simp only [List.mem_cons, List.not_mem_nil, or_false] at hy
    subst hy
    unfold b2i
    split <;> omega
  · intro y hy
    simp only [List.mem_cons, List.not_mem_nil, or_false] at hy
    subst hy
    omega
  · exact byts_be4 _ (by unfold up32; omega) (by unfold up32; omega)
  · exact byts_be4 _ (by omega) (by omega)
  · exact byts_be8 _ (by omega) (by omega)
  · exact byts_be8 _ (by omega) (by omega)
  · exact (byts_be4 _ (by omega) (by rw [txt_len]; omega)).append (txt_byts s)
  · exact (byts_be4 _ (by omega) (by omega)).append hb
  · exact hb

theorem encs_byts {sd : List OpD} (h : ∀ o ∈ sd, GoodSaid o) : Byts (encs sd) := by
  induction sd with
  | nil => intro y hy; simp [encs] at hy
  | cons o r ih =>
    rw [encs_cons]
    have := h o (by simp)
    exact (enc_byts _ _ _ _ _ this.fits this.byts).append (ih (fun q hq => h q (by simp [hq])))

theorem Try.infoOp : (Try.prog.info? 31).map (fun i => (i.zero, i.size, i.bytes)) = some (some (.agg #[.int .i64 0, .int .i64 0, .int .i64 0, .float .f64 0, .string ⟨#[]⟩, .slice none 0 0]), 6, 72) := by kernel_rfl

set_option maxRecDepth 100000 in
set_option maxHeartbeats 6000000 in
theorem walk (a : Option Addr) (os : List OpD) (cap : Nat) (w : World) (hs : SeesOps w (.slice a os.length cap) os) (hg : ∀ o ∈ os, GoodOp w o) :
    Calls Try.prog 3 #[.slice a os.length cap] w fun e w' => e = .returned (.bool true) ∧ Below w.heap.size w w' := by
  have HS : Hid (SeesOps w (.slice a os.length cap) os ∧ ∀ o ∈ os, GoodOp w o) := ⟨hs, hg⟩
  have q1 : os.length ≤ cap ∧ cap ≤ 9223372036854775807 := by
    obtain ⟨_, _, e, h1, h2, _⟩ := hs; simp at e; obtain ⟨_, rfl⟩ := e; unfold maxLen at h2; omega
  obtain ⟨q3, q4⟩ := q1
  clear hs hg
  obtain ⟨i0, hi, hz0, hz1, hz2⟩ := info_parts Try.infoOp
  have hsf := store_float
  go_enter Try.func3, Try.ntmps3
  go_wp2_with fail
  refine (works_any _).mono ?_
  rintro e w1 ⟨rfl, hb1⟩
  have HB1 : Hid (Below w.heap.size w w1) := hb1
  clear hb1
  go_wp2_with fail
  refine (long_any _ os _ (SeesOps.below HS.out.1 HB1.out (Nat.le_refl _))).mono ?_
  rintro e w2 ⟨r, rfl, hr, m2, hw2⟩
  have HB2 : Hid (Below w.heap.size w w2) := by
    have hk : Kept w1 w2 (fun _ => False) := by rw [hw2]; exact (Kept.refl _ _).drewN _
    exact HB1.out.trans (hk.below HB1.out.size (fun _ h => h.elim))
  have HR : Hid (r = false → opSum os ≤ 67108864) := hr
  clear hw2 HB1 hr
  cases r with
  | true =>
    go_wp2
    go_ret
    exact ⟨rfl, HB2.out⟩
  | false =>
    have hsum := HR.out rfl
    clear HR
    go_wp2
    go_loopw [5, 6] (fun sv i wr => ∃ (k : Nat) (sd : List OpD) (vw : Value), k ≤ os.length ∧ i = .int .i64 k ∧ opSum sd ≤ opSum (os.take k) ∧ Said w w2.heap.size sv vw sd (encs sd) wr) (fun _ i _ => os.length - (intOf i).toNat)
    case atStart =>
      refine ⟨0, [], .slice none 0 0, Nat.zero_le _, rfl, Nat.zero_le _, ?_⟩
      refine ⟨World.ownsRow_nil _ _ _ _, fun o ho => by simp at ho, fun o ho => by simp at ho, fun j hj => by simp [Value.ownBlock] at hj, fun j hj => by simp [Value.ownBlock] at hj, ⟨heap_alloc_new _ _, World.ownsRow_nil _ _ _ _⟩, HB2.out.alloc HB2.out.size _, HB2.out.size, fun o ho => by simp at ho⟩
    case round =>
      obtain ⟨k, sd, vw, hk, rfl, hsm, hS⟩ := hrel
      have HT : Hid (Said w w2.heap.size u5 vw sd (encs sd) wr) := hS
      clear hS
      by_cases hlt : k < os.length
      · have hsee := SeesOps.below HS.out.1 HT.out.bel (Nat.le_refl _)
        obtain ⟨ao', cap', e, _, _, h3⟩ := hsee
        simp at e
        obtain ⟨rfl, rfl⟩ := e
        rcases h3 with h3 | ⟨b, off, rfl, h3⟩
        · subst h3; simp at hlt
        obtain ⟨c0, c1, c2, c3, c4, c5, sb, yb⟩ := h3 k hlt
        have HN : Hid (opSum (os.take (k + 1)) = opSum (os.take k) + os[k].size ∧ GoodOp w os[k] ∧ opSum (os.take (k + 1)) ≤ opSum os) := ⟨opSum_next hlt, HS.out.2 _ (List.getElem_mem hlt), opSum_take os (k + 1)⟩
        clear h3
        generalize os[k] = o at *
        obtain ⟨kind, on, n, x, s, ao, oc, ys⟩ := o
        simp only at c0 c1 c2 c3 c4 c5 sb yb
        by_cases hk0 : kind < 1
        · go_wp2
          go_roundw
          case rel =>
            refine ⟨k + 1, sd, vw, by omega, by go_num, by have := HN.out.1; omega, HT.out.keep ((Kept.refl _ _).alloc _)⟩
          case measure => simp [intOf]; omega
        by_cases hk1 : 9 < kind
        · go_wp2
          go_roundw
          case rel =>
            refine ⟨k + 1, sd, vw, by omega, by go_num, by have := HN.out.1; omega, HT.out.keep ((Kept.refl _ _).alloc _)⟩
          case measure => simp [intOf]; omega
        have hk0' : 1 ≤ kind := by omega
        have hk1' : kind ≤ 9 := by omega
        have hgo := HN.out.2.1
        have hyb : ys.length ≤ 67108864 ∧ s.size ≤ 67108864 ∧ opSum sd + (1 + s.size + ys.length) ≤ 67108864 := by
          have h1 := HN.out.1
          have h2 := HN.out.2.2
          simp only [OpD.size] at h1
          omega
        have HG : Hid (GoodOp w ⟨kind, on, n, x, s, ao, oc, ys⟩ ∧ Fits n x s ys) := ⟨hgo, hgo.n0, hgo.n1, hgo.x1, by omega, by omega⟩
        obtain ⟨hyl, hsl, hol⟩ := hyb
        have HN2 : Hid (opSum sd + (1 + s.size + ys.length) ≤ opSum (os.take (k + 1))) := by
          have h1 := HN.out.1
          simp only [OpD.size] at h1
          show _ ≤ _
          omega
        clear hgo HN
        go_wp2_with fail
        have hka : Kept wr (wr.alloc (opc kind on n x s (.slice ao ys.length oc))) (fun _ => False) := (Kept.refl _ _).alloc _
        have HKa : Hid (Kept wr (wr.alloc (opc kind on n x s (.slice ao ys.length oc))) (fun _ => False)) := hka
        clear hka
        refine (copyBytes_any _ ys _ (by exact (HG.out.1.see.below HT.out.bel (Nat.le_refl _)).kept HKa.out (fun _ _ h => h)) (by omega)).mono ?_
        rintro e w3 ⟨v3, rfl, ho3, hb3⟩
        obtain ⟨ao3, c3', hv3, _, _, _, _⟩ := Sees.own ho3
        subst hv3
        have hbox3 : w3.heap[wr.heap.size]? = some (opc kind on n x s (.slice ao ys.length oc)) := (news hb3).heap (heap_alloc_new _ _) (fun h => h)
        have d0 := opc0 hbox3
        have d2 := opc2 hbox3
        have d3 := opc3 hbox3
        have d4 := opc4 hbox3
        have d5 := opc5 hbox3
        have d1 : w3.cell? ⟨wr.heap.size, 1, none⟩ = some (.int .i64 on) := by rw [cell_of_row w3 _ 1 _ _ _ hbox3]; rfl
        have df := fun j => frozen_of_row w3 wr.heap.size j _ _ hbox3
        have HB3 : Hid (w3.heap[wr.heap.size]? = some (opc kind on n x s (.slice ao ys.length oc)) ∧ Owns w3 (wr.heap.size + 1) (.slice ao3 ys.length c3') ys ∧ Kept wr w3 (fun _ => False)) :=
          ⟨hbox3, by simpa using ho3, HKa.out.trans (news hb3) (fun _ _ h => h)⟩
        clear hbox3 ho3 hb3 HKa c0 c1 c2 c3 c4 c5
        go_wp2_with fail
        have HB4 : Hid (∃ w4, w4 = w3.setCell ⟨wr.heap.size, 5, none⟩ (.slice ao3 ys.length c3') ∧ w4.heap[wr.heap.size]? = some (opc kind on n x s (.slice ao3 ys.length c3')) ∧ Said w w2.heap.size u5 vw sd (encs sd) w4 ∧ Sees w4 (.slice ao3 ys.length c3') ys ∧
            (∀ j, (Value.slice ao3 ys.length c3').ownBlock = some j → wr.heap.size < j ∧ j < w4.heap.size) ∧ wr.heap.size < w4.heap.size) := by
          refine ⟨_, rfl, ?_, HT.out.keep (HB3.out.2.2.setCell _ _ (fun h => by simp at h)), ?_, fun j hj => ?_, ?_⟩
          · rw [heap_set (i := 5) _ HB3.out.1]; rfl
          · refine (Sees.own HB3.out.2.1).kept ((Kept.refl w3 (fun k => k = wr.heap.size)).setCell _ _ (fun _ => rfl)) (fun k hk e => ?_)
            have := (HB3.out.2.1.lt k hk).1
            omega
          · have := HB3.out.2.1.lt j hj
            refine ⟨by omega, ?_⟩
            have h2 : (w3.setCell ⟨wr.heap.size, 5, none⟩ (.slice ao3 ys.length c3')).heap.size = w3.heap.size := by simp [World.setCell]
            rw [h2]
            exact this.2
          · have h2 : (w3.setCell ⟨wr.heap.size, 5, none⟩ (.slice ao3 ys.length c3')).heap.size = w3.heap.size := by simp [World.setCell]
            rw [h2]
            exact lt_of_block HB3.out.1
        obtain ⟨w4, hw4, hrest⟩ := HB4.out
        rw [← hw4]
        have HB5 : Hid _ := hrest
        clear hw4 hrest HB4 HB3 d0 d1 d2 d3 d4 d5 df
        have HE : Hid ((encs sd ++ encOf kind n x s ys).length ≤ 140737488355328) := by
          have h1 := encs_len sd
          have h2 := enc_len kind n x s ys
          show _ ≤ _
          rw [List.length_append]
          omega
        refine (put_all kind hk0' hk1' w2.heap.size vw (encs sd) ys on n x s ao3 c3' _ HB5.out.2.1.isW HB5.out.2.2.1 (fun _ j hj => ?_) HG.out.2 HE.out).mono ?_
        · have h1 := HB5.out.2.2.2.1 j hj
          have h2 := HT.out.lt
          refine ⟨by omega, fun e => ?_⟩
          have := (HT.out.isW.2.lt _ e).2
          omega
        rintro e w6 ⟨u6, rfl, hput⟩
        have hrow6 : w6.heap[wr.heap.size]? = some (opc kind on n x s (.slice ao3 ys.length c3')) := by
          obtain ⟨_, _, _, hk6⟩ := hput.2.2
          refine hk6.heap HB5.out.1 (fun e => ?_)
          have h2 := HT.out.lt
          rcases e with e | e
          · omega
          · have := (HT.out.isW.2.lt _ e).2; omega
        obtain ⟨vw6, m1, m2, m3⟩ := hput.2.2
        have HB7 : Hid (Said w w2.heap.size u5 vw6 sd (encs sd ++ encOf kind n x s ys) w6 ∧ Sees w6 (.slice ao3 ys.length c3') ys ∧
            (∀ j, (Value.slice ao3 ys.length c3').ownBlock = some j → w2.heap.size < j ∧ j < w6.heap.size ∧ vw6.ownBlock ≠ some j ∧ u5.ownBlock ≠ some j)) := by
          have h2 := HT.out.lt
          have hsz := m3.size
          refine ⟨HB5.out.2.1.put' m1 m2 m3, HB5.out.2.2.1.kept m3 (fun j hj e => ?_), fun j hj => ?_⟩
          · have h1 := HB5.out.2.2.2.1 j hj
            rcases e with e | e
            · omega
            · have := (HT.out.isW.2.lt _ e).2; omega
          · have h1 := HB5.out.2.2.2.1 j hj
            refine ⟨by omega, by omega, fun e => ?_, fun e => ?_⟩
            · rcases m2 with e2 | ⟨q, e2, hq⟩
              · rw [e2] at e; have := (HT.out.isW.2.lt _ e).2; omega
              · rw [e] at e2; simp at e2; omega
            · have := (HT.out.own.lt _ e).2; omega
        have d0 := opc0 hrow6
        have d2 := opc2 hrow6
        have d3 := opc3 hrow6
        have d4 := opc4 hrow6
        have d5 := opc5 hrow6
        have d1 : w6.cell? ⟨wr.heap.size, 1, none⟩ = some (.int .i64 on) := by rw [cell_of_row w6 _ 1 _ _ _ hrow6]; rfl
        clear hput hrow6 m1 m2 m3 HB5 HE
        have hlen := opLen sd
        go_wp2_with (at_builtin; refine wpList_append_own_at _ rfl _ _ 22 rfl (w2.heap.size + 1) 31 i0 _ 6 72 Try.underlying22 hi hz0 hz1 hz2 rfl (by decide) _ _ _ rfl (HB7.out.1.own.kept ((Kept.refl w6 (fun _ => False)).alloc _) (fun _ _ h => h)) ⟨w6.heap.size, 0, none⟩ 1 1 (opCells ⟨kind, on, n, x, s, ao3, c3', ys⟩) rfl rfl ?c1 ?c2 ?c3 ?c4 ?c5 ?_)
        case c1 =>
          intro j u hj
          rw [addr_add, Nat.zero_add, cell_of_row _ _ _ _ _ _ (heap_alloc_new _ _)]
          rw [← hj]
          simp [opCells]
        case c2 =>
          intro u hu
          simp only [opCells, List.mem_cons, List.not_mem_nil, or_false] at hu
          rcases hu with rfl | rfl | rfl | rfl | rfl | rfl <;> rfl
        case c3 => unfold maxLen; omega
        case c4 => omega
        case c5 => have := HB7.out.1.lt; simp; omega
        intro v' w8 hown' hgrow _ hat
        have HB8 : Hid (Said w w2.heap.size v' vw6 (sd ++ [⟨kind, on, n, x, s, ao3, c3', ys⟩]) (encs (sd ++ [⟨kind, on, n, x, s, ao3, c3', ys⟩])) w8) := by
          rw [encs_snoc]
          have hkk : Kept w6 (w6.alloc (opc kind on n x s (.slice ao3 ys.length c3'))) (fun _ => False) := (Kept.refl _ _).alloc _
          refine (HB7.out.1.keep hkk).push (HB7.out.2.1.kept hkk (fun _ _ h => h)) (fun j hj => ?_) ⟨hk0', hk1', HG.out.2, HG.out.1.byts⟩ hown' hgrow (by simpa using hat)
          have := HB7.out.2.2 j hj
          refine ⟨this.1, by simp; omega, this.2.2⟩
        clear hown' hgrow hat HB7 d0 d1 d2 d3 d4 d5
        go_wp2
        go_roundw
        case rel =>
          refine ⟨k + 1, _, vw6, by omega, by go_num, ?_, HB8.out⟩
          rw [opSum_append]
          have := HN2.out
          simp only [opSum, OpD.size]
          omega
        case measure => simp [intOf]; omega
      · have hlen := opLen sd
        have hob : opSum sd ≤ 67108864 := by have := opSum_take os k; omega
        have HLE : Hid ((encs sd).length ≤ 140737488355328) := by
          have h1 := encs_len sd
          show _ ≤ _
          omega
        clear hsm
        go_wp2_with fail
        refine (wBytes_any w2.heap.size vw (encs sd) _ HT.out.isW HLE.out).mono ?_
        rintro e w3 ⟨v3, rfl, ho3, hb3⟩
        have HT3 : Hid (Said w w2.heap.size u5 vw sd (encs sd) w3 ∧ Sees w3 v3 (encs sd)) := ⟨HT.out.keep (news hb3), Sees.own ho3⟩
        clear ho3 hb3 HT
        go_wp2_with fail
        refine (new_any v3 (encs sd) _ HT3.out.2 HLE.out).mono ?_
        rintro e w4 ⟨gr, vr, rfl, hR, hgr, hO, hb4⟩
        have HT4 : Hid (Said w w2.heap.size u5 vw sd (encs sd) w4 ∧ IsR w4 gr vr (encs sd) 0 ∧ w3.heap.size ≤ gr ∧ w.heap.size ≤ gr ∧ (∀ j, u5.ownBlock = some j → j ≠ gr) ∧ (∀ o ∈ sd, ∀ j, o.v.ownBlock = some j → j ≠ gr)) := by
          have hlt3 := HT3.out.1.lt
          have hg0 := HT3.out.1.g0
          refine ⟨HT3.out.1.keep (news hb4), hR, hgr, by omega, fun j hj => ?_, fun o ho j hj => ?_⟩
          · have := (HT3.out.1.own.lt j hj).2; omega
          · have := (HT3.out.1.rowB o ho j hj).2.1; omega
        clear hR hgr hO hb4 HT3
        obtain ⟨sao, sn, sc, hsv⟩ : ∃ sao sn sc, u5 = .slice sao sn sc := by
          rcases HT4.out.1.own.2 with ⟨rfl, _⟩ | ⟨g, c, cur, rfl, _⟩
          · exact ⟨_, _, _, rfl⟩
          · exact ⟨_, _, _, rfl⟩
        have hsn : sn = sd.length ∧ sn ≤ sc ∧ sc ≤ 9223372036854775807 := by
          rcases HT4.out.1.own.2 with ⟨e, e2⟩ | ⟨g, c, cur, e, _, _, h1, h2, _⟩
          · rw [hsv] at e; simp at e; omega
          · rw [hsv] at e; simp at e; unfold maxLen at h2; omega
        subst hsv
        obtain ⟨rfl, hsc, hsc2⟩ := hsn
        go_wp2
        go_loopw [9] (fun i wx => ∃ (k : Nat) (vr : Value), k ≤ sd.length ∧ i = .int .i64 k ∧ IsR wx gr vr (encs (sd.drop k)) 0 ∧ Kept w4 wx (· = gr)) (fun i _ => sd.length - (intOf i).toNat)
        case atStart => exact ⟨0, vr, Nat.zero_le _, rfl, HT4.out.2.1, Kept.refl _ _⟩
        case round =>
          clear hk hlt
          obtain ⟨k, vr, hk, rfl, hR, hkp⟩ := hrel
          have HR : Hid (IsR wr gr vr (encs (sd.drop k)) 0 ∧ Kept w4 wr (· = gr)) := ⟨hR, hkp⟩
          clear hR hkp
          by_cases hlt : k < sd.length
          · obtain ⟨gs, hsao⟩ : ∃ gs, sao = some ⟨gs, 0, none⟩ := by
              rcases HT4.out.1.own.2 with ⟨e, e2⟩ | ⟨g, c, cur, e, _⟩
              · omega
              · simp at e; exact ⟨g, e.1⟩
            subst hsao
            have hcell : ∀ j, j < 6 → wr.cell? ⟨gs, k * 6 + j, none⟩ = (opCells sd[k])[j]? := by
              intro j hj
              have h1 := HT4.out.1.own.cellAt (k * 6 + j) (by omega)
              rw [ops_at hlt j hj] at h1
              have h2 : ∃ u, (opCells sd[k])[j]? = some u := ⟨_, List.getElem?_eq_getElem (by simpa [opCells] using hj)⟩
              obtain ⟨u, hu⟩ := h2
              rw [hu] at h1 ⊢
              exact HR.out.2.cell h1 (fun e => HT4.out.2.2.2.2.1 gs rfl e)
            have c0 := hcell 0 (by omega)
            have c1 := hcell 1 (by omega)
            have c2 := hcell 2 (by omega)
            have c3 := hcell 3 (by omega)
            have c4 := hcell 4 (by omega)
            have c5 := hcell 5 (by omega)
            have hgd := HT4.out.1.good sd[k] (List.getElem_mem hlt)
            have hsee : Sees wr sd[k].v sd[k].ys := (HT4.out.1.see sd[k] (List.getElem_mem hlt)).kept HR.out.2 (fun j hj e => HT4.out.2.2.2.2.2 sd[k] (List.getElem_mem hlt) j hj e)
            have henc : encs (sd.drop k) = encOf sd[k].kind sd[k].n sd[k].x sd[k].s sd[k].ys ++ encs (sd.drop (k + 1)) := by
              rw [List.drop_eq_getElem_cons hlt, encs_cons]
            have hsb := HT4.out.2.2.2.2.2 sd[k] (List.getElem_mem hlt)
            clear hcell
            generalize sd[k] = o at *
            obtain ⟨kind, on, n, x, s, ao, oc, ys⟩ := o
            simp only [opCells, List.getElem?_cons_zero, List.getElem?_cons_succ, Nat.add_zero] at c0 c1 c2 c3 c4 c5
            obtain ⟨hk0, hk1, hft, hby⟩ := hgd
            have HG : Hid (Fits n x s ys ∧ (∀ j, (Value.slice ao ys.length oc).ownBlock = some j → j ≠ gr) ∧ Sees wr (.slice ao ys.length oc) ys ∧ encs (sd.drop k) = encOf kind n x s ys ++ encs (sd.drop (k + 1))) := ⟨hft, hsb, hsee, henc⟩
            have hs1 : s.size ≤ 2147483647 := hft.s1
            have hy1 : ys.length ≤ 2147483647 := hft.y1
            simp only at hk0 hk1 hs1 hy1
            have HBY : Hid (Byts (encs (sd.drop k))) := encs_byts (fun q hq => HT4.out.1.good q (List.mem_of_mem_drop hq))
            clear hft hby hsee henc hsb
            by_cases h7 : kind < 7
            · go_wp2_with fail
              have hka : Kept wr (wr.alloc (opc kind on (n) x s (.slice ao ys.length oc))) (fun _ => False) := (Kept.refl _ _).alloc _
              have HKA : Hid _ := hka
              clear hka
              refine (get_any kind hk0 (by omega) gr vr (encs (sd.drop k)) 0 on (n) x s ao ys.length oc _ (by exact HR.out.1.kept HKA.out (fun h => h) (fun _ _ h => h)) HBY.out).mono ?_
              rintro e w5 ⟨u, rfl, hc5, hp5⟩
              have hback := ans_back kind n x s ys (encs (sd.drop (k + 1))) hk0 hk1 HG.out.1
              have hask : askFor kind n s ys = n := by unfold askFor; rw [if_neg (by omega), if_neg (by omega)]
              rw [hask, ← HG.out.2.2.2] at hback
              clear hask
              generalize ansOf kind (n) (encs (sd.drop k)) 0 = A at hc5 hp5 hback
              obtain ⟨ua, hu⟩ := hc5.2.1
              subst hu
              obtain ⟨vr5, r1, r2, r3⟩ := hp5
              rw [hback.1, hback.2.1] at r1
              have HB5 : Hid (Kept wr w5 (· = gr) ∧ IsR w5 gr vr5 (encs (sd.drop (k + 1))) 0 ∧ Sees w5 (.slice ua A.ys.length A.ys.length) A.ys ∧ Match kind n x s ys A) :=
                ⟨(HKA.out.mono (fun _ _ h => h.elim)).trans r3 (fun _ _ h => h), r1, hc5.1, hback.2.2⟩
              clear hback hc5 r1 r2 r3 HKA
              go_wp2
              obtain ⟨w6, hw6⟩ : ∃ w6, w6 = w5.alloc (.cells (told A.b A.n A.x A.s (.slice ua A.ys.length A.ys.length) 0 0) 41) := ⟨_, rfl⟩
              rw [← hw6]
              have hk56 : Kept w5 w6 (fun _ => False) := by rw [hw6]; exact (Kept.refl _ _).alloc _
              have hrow6 : w6.heap[w5.heap.size]? = some (.cells (told A.b A.n A.x A.s (.slice ua A.ys.length A.ys.length) 0 0) 41 (0, 0)) := by rw [hw6]; exact heap_alloc_new _ _
              have hgs : gs ≠ gr := HT4.out.2.2.2.2.1 gs rfl
              have hk6 : Kept wr w6 (· = gr) := HB5.out.1.trans hk56 (fun _ _ h => h.elim)
              obtain ⟨k0, k1, k2, k3, k4, k5, k6, kf⟩ := row7 hrow6
              have e0 := hk6.cell c0 hgs
              have e1 := hk6.cell c1 hgs
              have e2 := hk6.cell c2 hgs
              have e3 := hk6.cell c3 hgs
              have e4 := hk6.cell c4 hgs
              have e5 := hk6.cell c5 hgs
              have HA : Hid (Calls Try.prog 14 #[opv kind on n x s (.slice ao ys.length oc), .agg (told A.b A.n A.x A.s (.slice ua A.ys.length A.ys.length) 0 0)] w6.drew fun e w' => e = .returned (.bool true) ∧ Kept w6.drew w' (fun _ => False)) := by
                have hwz : Kept w6 w6.drew (fun _ => False) := (Kept.refl _ _).drewN 1
                exact again_any kind hk0 hk1 on n x s ys ao ua oc _ A HB5.out.2.2.2 HG.out.1 ((HG.out.2.2.1.kept hk6 (fun j hj e => HG.out.2.1 j hj e)).kept hwz (fun _ _ h => h)) ((HB5.out.2.2.1.kept hk56 (fun _ _ h => h)).kept hwz (fun _ _ h => h))
              have HC : Hid (Kept w4 w6.drew (· = gr) ∧ IsR w6.drew gr vr5 (encs (sd.drop (k + 1))) 0) := by
                have hwz : Kept w6 w6.drew (fun _ => False) := (Kept.refl _ _).drewN 1
                exact ⟨(HR.out.2.trans hk6 (fun _ _ h => h)).trans hwz (fun _ _ h => h.elim), (HB5.out.2.1.kept hk56 (fun h => h) (fun _ _ h => h)).kept hwz (fun h => h) (fun _ _ h => h)⟩
              clear hw6 hk56 hrow6 hk6 HB5 c0 c1 c2 c3 c4 c5
              go_region_with (go_at_call 14; refine HA.out.mono ?_; rintro e w7 ⟨rfl, hk7⟩)
              all_goals go_wp2
              all_goals go_roundw
              all_goals first
                | exact ⟨k + 1, vr5, by omega, by go_num, HC.out.2.kept hk7 (fun h => h) (fun _ _ h => h), HC.out.1.trans hk7 (fun _ _ h => h.elim)⟩
                | (simp [intOf]; omega)
            by_cases h77 : kind = 7
            · subst h77
              go_wp2_with fail
              have hka : Kept wr (wr.alloc (opc 7 on ((s.size : Int)) x s (.slice ao ys.length oc))) (fun _ => False) := (Kept.refl _ _).alloc _
              have HKA : Hid _ := hka
              clear hka
              refine (get_any 7 hk0 (by omega) gr vr (encs (sd.drop k)) 0 on ((s.size : Int)) x s ao ys.length oc _ (by exact HR.out.1.kept HKA.out (fun h => h) (fun _ _ h => h)) HBY.out).mono ?_
              rintro e w5 ⟨u, rfl, hc5, hp5⟩
              have hback := ans_back 7 n x s ys (encs (sd.drop (k + 1))) hk0 hk1 HG.out.1
              have hask : askFor 7 n s ys = (s.size : Int) := by unfold askFor; rw [if_pos rfl]
              rw [hask, ← HG.out.2.2.2] at hback
              clear hask
              generalize ansOf 7 ((s.size : Int)) (encs (sd.drop k)) 0 = A at hc5 hp5 hback
              obtain ⟨ua, hu⟩ := hc5.2.1
              subst hu
              obtain ⟨vr5, r1, r2, r3⟩ := hp5
              rw [hback.1, hback.2.1] at r1
              have HB5 : Hid (Kept wr w5 (· = gr) ∧ IsR w5 gr vr5 (encs (sd.drop (k + 1))) 0 ∧ Sees w5 (.slice ua A.ys.length A.ys.length) A.ys ∧ Match 7 n x s ys A) :=
                ⟨(HKA.out.mono (fun _ _ h => h.elim)).trans r3 (fun _ _ h => h), r1, hc5.1, hback.2.2⟩
              clear hback hc5 r1 r2 r3 HKA
              go_wp2
              obtain ⟨w6, hw6⟩ : ∃ w6, w6 = w5.alloc (.cells (told A.b A.n A.x A.s (.slice ua A.ys.length A.ys.length) 0 0) 41) := ⟨_, rfl⟩
              rw [← hw6]
              have hk56 : Kept w5 w6 (fun _ => False) := by rw [hw6]; exact (Kept.refl _ _).alloc _
              have hrow6 : w6.heap[w5.heap.size]? = some (.cells (told A.b A.n A.x A.s (.slice ua A.ys.length A.ys.length) 0 0) 41 (0, 0)) := by rw [hw6]; exact heap_alloc_new _ _
              have hgs : gs ≠ gr := HT4.out.2.2.2.2.1 gs rfl
              have hk6 : Kept wr w6 (· = gr) := HB5.out.1.trans hk56 (fun _ _ h => h.elim)
              obtain ⟨k0, k1, k2, k3, k4, k5, k6, kf⟩ := row7 hrow6
              have e0 := hk6.cell c0 hgs
              have e1 := hk6.cell c1 hgs
              have e2 := hk6.cell c2 hgs
              have e3 := hk6.cell c3 hgs
              have e4 := hk6.cell c4 hgs
              have e5 := hk6.cell c5 hgs
              have HA : Hid (Calls Try.prog 14 #[opv 7 on n x s (.slice ao ys.length oc), .agg (told A.b A.n A.x A.s (.slice ua A.ys.length A.ys.length) 0 0)] w6.drew fun e w' => e = .returned (.bool true) ∧ Kept w6.drew w' (fun _ => False)) := by
                have hwz : Kept w6 w6.drew (fun _ => False) := (Kept.refl _ _).drewN 1
                exact again_any 7 hk0 hk1 on n x s ys ao ua oc _ A HB5.out.2.2.2 HG.out.1 ((HG.out.2.2.1.kept hk6 (fun j hj e => HG.out.2.1 j hj e)).kept hwz (fun _ _ h => h)) ((HB5.out.2.2.1.kept hk56 (fun _ _ h => h)).kept hwz (fun _ _ h => h))
              have HC : Hid (Kept w4 w6.drew (· = gr) ∧ IsR w6.drew gr vr5 (encs (sd.drop (k + 1))) 0) := by
                have hwz : Kept w6 w6.drew (fun _ => False) := (Kept.refl _ _).drewN 1
                exact ⟨(HR.out.2.trans hk6 (fun _ _ h => h)).trans hwz (fun _ _ h => h.elim), (HB5.out.2.1.kept hk56 (fun h => h) (fun _ _ h => h)).kept hwz (fun h => h) (fun _ _ h => h)⟩
              clear hw6 hk56 hrow6 hk6 HB5 c0 c1 c2 c3 c4 c5
              go_region_with (go_at_call 14; refine HA.out.mono ?_; rintro e w7 ⟨rfl, hk7⟩)
              all_goals go_wp2
              all_goals go_roundw
              all_goals first
                | exact ⟨k + 1, vr5, by omega, by go_num, HC.out.2.kept hk7 (fun h => h) (fun _ _ h => h), HC.out.1.trans hk7 (fun _ _ h => h.elim)⟩
                | (simp [intOf]; omega)
            · have hne7 : (kind == 7) = false := by simp [h77]
              go_wp2_with fail
              have hka : Kept wr (wr.alloc (opc kind on ((ys.length : Int)) x s (.slice ao ys.length oc))) (fun _ => False) := (Kept.refl _ _).alloc _
              have HKA : Hid _ := hka
              clear hka
              refine (get_any kind hk0 (by omega) gr vr (encs (sd.drop k)) 0 on ((ys.length : Int)) x s ao ys.length oc _ (by exact HR.out.1.kept HKA.out (fun h => h) (fun _ _ h => h)) HBY.out).mono ?_
              rintro e w5 ⟨u, rfl, hc5, hp5⟩
              have hback := ans_back kind n x s ys (encs (sd.drop (k + 1))) hk0 hk1 HG.out.1
              have hask : askFor kind n s ys = (ys.length : Int) := by unfold askFor; rw [if_neg h77, if_pos (by omega)]
              rw [hask, ← HG.out.2.2.2] at hback
              clear hask
              generalize ansOf kind ((ys.length : Int)) (encs (sd.drop k)) 0 = A at hc5 hp5 hback
              obtain ⟨ua, hu⟩ := hc5.2.1
              subst hu
              obtain ⟨vr5, r1, r2, r3⟩ := hp5
              rw [hback.1, hback.2.1] at r1
              have HB5 : Hid (Kept wr w5 (· = gr) ∧ IsR w5 gr vr5 (encs (sd.drop (k + 1))) 0 ∧ Sees w5 (.slice ua A.ys.length A.ys.length) A.ys ∧ Match kind n x s ys A) :=
                ⟨(HKA.out.mono (fun _ _ h => h.elim)).trans r3 (fun _ _ h => h), r1, hc5.1, hback.2.2⟩
              clear hback hc5 r1 r2 r3 HKA
              go_wp2
              obtain ⟨w6, hw6⟩ : ∃ w6, w6 = w5.alloc (.cells (told A.b A.n A.x A.s (.slice ua A.ys.length A.ys.length) 0 0) 41) := ⟨_, rfl⟩
              rw [← hw6]
              have hk56 : Kept w5 w6 (fun _ => False) := by rw [hw6]; exact (Kept.refl _ _).alloc _
              have hrow6 : w6.heap[w5.heap.size]? = some (.cells (told A.b A.n A.x A.s (.slice ua A.ys.length A.ys.length) 0 0) 41 (0, 0)) := by rw [hw6]; exact heap_alloc_new _ _
              have hgs : gs ≠ gr := HT4.out.2.2.2.2.1 gs rfl
              have hk6 : Kept wr w6 (· = gr) := HB5.out.1.trans hk56 (fun _ _ h => h.elim)
              obtain ⟨k0, k1, k2, k3, k4, k5, k6, kf⟩ := row7 hrow6
              have e0 := hk6.cell c0 hgs
              have e1 := hk6.cell c1 hgs
              have e2 := hk6.cell c2 hgs
              have e3 := hk6.cell c3 hgs
              have e4 := hk6.cell c4 hgs
              have e5 := hk6.cell c5 hgs
              have HA : Hid (Calls Try.prog 14 #[opv kind on n x s (.slice ao ys.length oc), .agg (told A.b A.n A.x A.s (.slice ua A.ys.length A.ys.length) 0 0)] w6.drew fun e w' => e = .returned (.bool true) ∧ Kept w6.drew w' (fun _ => False)) := by
                have hwz : Kept w6 w6.drew (fun _ => False) := (Kept.refl _ _).drewN 1
                exact again_any kind hk0 hk1 on n x s ys ao ua oc _ A HB5.out.2.2.2 HG.out.1 ((HG.out.2.2.1.kept hk6 (fun j hj e => HG.out.2.1 j hj e)).kept hwz (fun _ _ h => h)) ((HB5.out.2.2.1.kept hk56 (fun _ _ h => h)).kept hwz (fun _ _ h => h))
              have HC : Hid (Kept w4 w6.drew (· = gr) ∧ IsR w6.drew gr vr5 (encs (sd.drop (k + 1))) 0) := by
                have hwz : Kept w6 w6.drew (fun _ => False) := (Kept.refl _ _).drewN 1
                exact ⟨(HR.out.2.trans hk6 (fun _ _ h => h)).trans hwz (fun _ _ h => h.elim), (HB5.out.2.1.kept hk56 (fun h => h) (fun _ _ h => h)).kept hwz (fun h => h) (fun _ _ h => h)⟩
              clear hw6 hk56 hrow6 hk6 HB5 c0 c1 c2 c3 c4 c5
              go_region_with (go_at_call 14; refine HA.out.mono ?_; rintro e w7 ⟨rfl, hk7⟩)
              all_goals go_wp2
              all_goals go_roundw
              all_goals first
                | exact ⟨k + 1, vr5, by omega, by go_num, HC.out.2.kept hk7 (fun h => h) (fun _ _ h => h), HC.out.1.trans hk7 (fun _ _ h => h.elim)⟩
                | (simp [intOf]; omega)
          · obtain rfl : k = sd.length := by omega
            have hR := HR.out.1
            rw [List.drop_length] at hR
            have HRR : Hid (IsR wr gr vr [] 0 ∧ Below w.heap.size w wr) := by
              refine ⟨hR, HT4.out.1.bel.trans (HR.out.2.below HT4.out.1.bel.size (fun j e => ?_))⟩
              have := HT4.out.2.2.2.1
              omega
            clear hR HR
            go_wp2_with fail
            refine (rLeft_any gr vr [] 0 _ HRR.out.1).mono ?_
            rintro e w5 ⟨rfl, rfl⟩
            go_wp2_with fail
            refine (rEnd_any gr vr [] 0 _ HRR.out.1).mono ?_
            rintro e w6 ⟨rfl, rfl⟩
            go_wp2
            go_ret
            exact ⟨rfl, HRR.out.2⟩

end packBack
end Go.Proofs.Ytmjcpcpcngpdjaa
