/- What 'joined' of the statements answers: the frames of those lists of bytes that are bodies, one behind the other; these lists; where each begins. -/
import Derived.Test.YtabkjcgcnimoaaaTorn1
namespace Go.Proofs.Ytabkjcgcnimoaaa
open Go.ChangeShapes Go.WideShapes Go.ChangeAt Go.RowKit
set_option maxRecDepth 8000

/-- Where frames begin, the first at p. -/
def starts : Nat → List (List Int) → List Int
  | _, [] => []
  | p, b :: l => (p : Int) :: starts (p + (b.length + 9)) l

theorem starts_snoc (b : List Int) : ∀ (l : List (List Int)) (p : Nat), starts p (l ++ [b]) = starts p l ++ [((p + pos l : Nat) : Int)]
  | [], p => by simp [starts, pos]
  | c :: l, p => by
    have e : p + pos (c :: l) = p + (c.length + 9) + pos l := by simp only [pos]; omega
    rw [e, List.cons_append]
    simp only [starts]
    rw [starts_snoc b l, List.cons_append]

theorem starts_len : ∀ (l : List (List Int)) (p : Nat), (starts p l).length = l.length
  | [], _ => rfl
  | b :: l, p => by simp [starts, starts_len l]

theorem starts_at : ∀ (l : List (List Int)) (p i : Nat), i < l.length → (starts p l).getD i 0 = ((p + pos (l.take i) : Nat) : Int)
  | [], _, _, h => by simp at h
  | b :: l, p, 0, _ => by simp [starts, pos]
  | b :: l, p, i + 1, h => by
    have := starts_at l (p + (b.length + 9)) i (by simpa using h)
    simp only [starts, List.getD_cons_succ, this, List.take_succ_cons, pos]
    congr 1
    omega

def goods (ps : List Pcd) : List Pcd := ps.filter fun p => isSz p.ys.length
def ysOf (ps : List Pcd) : List (List Int) := ps.map Pcd.ys

theorem goods_yes {ps : List Pcd} {k : Nat} (h : k < ps.length) (hs : isSz ps[k].ys.length = true) : goods (ps.take (k + 1)) = goods (ps.take k) ++ [ps[k]] := by
  rw [List.take_succ_eq_append_getElem h]
  unfold goods
  rw [List.filter_append]
  simp [hs]
theorem goods_no {ps : List Pcd} {k : Nat} (h : k < ps.length) (hs : isSz ps[k].ys.length = false) : goods (ps.take (k + 1)) = goods (ps.take k) := by
  rw [List.take_succ_eq_append_getElem h]
  unfold goods
  rw [List.filter_append]
  simp [hs]

theorem ysOf_snoc (l : List Pcd) (p : Pcd) : ysOf (l ++ [p]) = ysOf l ++ [p.ys] := by simp [ysOf]

theorem pos_goods : ∀ ps : List Pcd, pos (ysOf (goods ps)) ≤ bulk ps
  | [] => Nat.le_refl _
  | p :: ps => by
    have ih := pos_goods ps
    unfold goods at ih ⊢
    rw [List.filter_cons]
    split
    · simp only [ysOf, List.map_cons, pos, bulk] at ih ⊢; omega
    · simp only [bulk]; omega

theorem goods_len : ∀ ps : List Pcd, (goods ps).length * 10 ≤ bulk ps
  | [] => Nat.le_refl _
  | p :: ps => by
    have ih := goods_len ps
    unfold goods at ih ⊢
    rw [List.filter_cons]
    split
    · simp only [List.length_cons, bulk]; omega
    · simp only [bulk]; omega

/-- What is joined of l. -/
structure Join (n₀ : Nat) (l : List Pcd) (va vl vat : Value) (V : World) : Prop where
  all : Owns V n₀ va (framesL (ysOf l))
  lst : V.ownsRow n₀ 25 1 vl l.length (l.map Pcd.v)
  beg : V.ownsRow n₀ 3 1 vat l.length ((starts 0 (ysOf l)).map (Value.int .i64))

theorem rows_apart {V : World} {a b n m : Nat} {t s : TypeId} {v u : Value} {xs ys : List Value} (h : V.ownsRow a t 1 v n xs) (g : V.ownsRow b s 1 u m ys) (hts : t ≠ s) : ∀ k, v.ownBlock = some k → u.ownBlock ≠ some k := fun k e e' => by
  obtain ⟨⟨cs, h1⟩, _⟩ := row_at h e
  obtain ⟨⟨cs', h2⟩, _⟩ := row_at g e'
  exact ne_ty h1 h2 hts rfl

theorem Join.below {n₀ : Nat} {l : List Pcd} {va vl vat : Value} {V V' : World} (h : Join n₀ l va vl vat V) (hb : Below V.heap.size V V') : Join n₀ l va vl vat V' :=
  ⟨row_kept h.all (kept_below hb (fun _ => False)) (fun _ _ h => h), row_kept h.lst (kept_below hb (fun _ => False)) (fun _ _ h => h), row_kept h.beg (kept_below hb (fun _ => False)) (fun _ _ h => h)⟩

theorem row_form {w : World} {base n : Nat} {t : TypeId} {v : Value} {xs : List Value} (h : w.ownsRow base t 1 v n xs) : ∃ ao c, v = .slice ao n c := by
  rcases h.2 with ⟨rfl, h0⟩ | ⟨g, cap, cur, rfl, _⟩
  · exact ⟨none, 0, by rw [h0]⟩
  · exact ⟨_, _, rfl⟩

/-- A list of ints or of lists grows by one: the others stay. -/
theorem Join.beg' {n₀ : Nat} {l : List Pcd} {va vl vat : Value} {V V' : World} {o : Obj} (h : Join n₀ l va vl vat V) (hg : (V.alloc o).grownBy V' vat.ownBlock) :
    Owns V' n₀ va (framesL (ysOf l)) ∧ V'.ownsRow n₀ 25 1 vl l.length (l.map Pcd.v) ∧ Kept V V' (fun k => vat.ownBlock = some k) := by
  have k := kept_grown hg
  exact ⟨row_kept h.all k (fun k e => rows_apart h.all h.beg (by decide) k e), row_kept h.lst k (fun k e => rows_apart h.lst h.beg (by decide) k e), k⟩

set_option maxHeartbeats 2000000 in
theorem joined_any (v : Value) (ps : List Pcd) (w : World) (h : SeesPs w v ps) (hbulk : bulk ps ≤ 1073741823) :
    Calls Try.prog 8 #[v] w fun e w' => ∃ va vl vat, e = .returned (.tuple #[va, vl, vat, .bool true]) ∧ Join w.heap.size (goods ps) va vl vat w' ∧ Below w.heap.size w w' := by
  obtain ⟨ao, cap, rfl, hlc, hcm, hg, h3⟩ := h
  unfold maxLen at hcm
  have HG : Hid (∀ p ∈ ps, Good w p) := hg
  obtain ⟨i0, hi, hz0, hz1, hz2⟩ := info_parts Try.infoInt
  obtain ⟨j0, hj, jz0, jz1, jz2⟩ := info_parts Try.infoBytes
  obtain ⟨b0, hbi, bz0, bz1, bz2⟩ := info_parts Try.infoByte
  clear hg
  go_enter Try.func8, Try.ntmps8
  go_wp2
  go_loopw [6, 7, 8, 9] (fun va vl vat i wr => ∃ k : Nat, k ≤ ps.length ∧ i = .int .i64 k ∧ Join w.heap.size (goods (ps.take k)) va vl vat wr ∧ Below w.heap.size w wr) (fun _ _ _ i _ => ps.length - (intOf i).toNat)
  case atStart => exact ⟨0, Nat.zero_le _, rfl, ⟨World.ownsRow_nil _ _ _ _, World.ownsRow_nil _ _ _ _, World.ownsRow_nil _ _ _ _⟩, Below.refl _ _⟩
  case round =>
    obtain ⟨k, hk, rfl, hjn, hbw⟩ := hrel
    by_cases hlt : k < ps.length
    · have d0 : decide ((k : Int) < ps.length) = true := by simp; omega
      rcases h3 with h3 | ⟨b, off, rfl, h3⟩
      · subst h3; simp at hlt
      · have hc := cell_later (h3 k hlt) hbw (Nat.le_refl _)
        have hgk := HG.out ps[k] (List.getElem_mem hlt)
        have HC : Hid (∀ wx, Below w.heap.size w wx → wx.cell? ⟨b, off + k, none⟩ = some ps[k].v) := fun wx hbx => cell_later (h3 k hlt) hbx (Nat.le_refl _)
        obtain ⟨g1, g2⟩ : ps[k].ys.length ≤ ps[k].cap ∧ ps[k].cap ≤ 9223372036854775807 := by
          obtain ⟨_, _, e, h1, h2, _⟩ := hgk.1
          simp [Pcd.v] at e
          obtain ⟨_, e⟩ := e
          unfold maxLen at h2
          omega
        obtain ⟨p, hp⟩ : ∃ p, p = ps[k] := ⟨_, rfl⟩
        have HP : Hid (p = ps[k]) := hp
        rw [← hp] at hgk hc g1 g2 HC
        have hpv : p.v = .slice p.ao p.ys.length p.cap := rfl
        rw [hpv] at hc HC
        have hF : (framesL (ysOf (goods (ps.take k)))).length ≤ 1073741823 := by
          rw [framesL_len]
          have h1 := pos_goods (ps.take k)
          have h2 := bulk_take ps k
          omega
        have hm : (goods (ps.take k)).length ≤ 1073741823 := by
          have h1 := goods_len (ps.take k)
          have h2 := bulk_take ps k
          omega
        obtain ⟨a6, c6, h6⟩ := row_form hjn.all
        subst h6
        have HJ : Hid (Good w p ∧ Join w.heap.size (goods (ps.take k)) (.slice a6 (framesL (ysOf (goods (ps.take k)))).length c6) u7 u8 wr ∧ Below w.heap.size w wr) := ⟨hgk, hjn, hbw⟩
        clear hgk hjn hbw h3 hp hpv
        by_cases hsz : isSz p.ys.length = true
        · have HGy : Hid (goods (ps.take (k + 1)) = goods (ps.take k) ++ [p]) := by
            have e := HP.out
            rw [e]; exact goods_yes hlt (by rw [← e]; exact hsz)
          have hl20 : p.ys.length ≤ 1048576 := by simp [isSz] at hsz; omega
          obtain ⟨l, hl⟩ : ∃ l, l = goods (ps.take k) := ⟨_, rfl⟩
          rw [← hl] at HJ HGy hm hF ⊢
          obtain ⟨F, hFF⟩ : ∃ F, F = framesL (ysOf l) := ⟨_, rfl⟩
          have HF : Hid (F = framesL (ysOf l)) := hFF
          rw [← hFF] at HJ hF ⊢
          clear hFF hl
          go_wp2_with fail
          refine (put_ok _ p.ys _ (HJ.out.1.1.below HJ.out.2.2 (Nat.le_refl _)) HJ.out.1.2 hsz).mono ?_
          rintro e w1 ⟨g, rfl, hg, ho, hb1⟩
          have B1 : Below w.heap.size w w1 := HJ.out.2.2.trans (hb1.mono HJ.out.2.2.size)
          have HJ1 : Hid (Join w.heap.size l (.slice a6 F.length c6) u7 u8 w1 ∧ Below w.heap.size w w1 ∧ Owns w1 0 (.slice (some ⟨g, 0, none⟩) (frameL p.ys).length (frameL p.ys).length) (frameL p.ys) ∧ (Value.slice a6 F.length c6).ownBlock ≠ some g ∧ g < w1.heap.size) := by
            refine ⟨HJ.out.2.1.below hb1, B1, owns_mono ho (Nat.zero_le _), fun e => ?_, rows_lt ho rfl⟩
            have := rows_lt HJ.out.2.1.all e
            omega
          have hc1 := HC.out w1 B1
          have HFL : Hid ((frameL p.ys).length = p.ys.length + 9) := frameL_len p.ys
          clear ho hb1 B1 hc
          rw [HFL.out]
          go_wp2_with fail
          refine (is_any _ p.ys _ (HJ.out.1.1.below HJ1.out.2.1 (Nat.le_refl _))).mono ?_
          rw [hsz]
          rintro e w2 ⟨rfl, rfl⟩
          go_wp2_with (at_builtin; refine wpList_append_lies _ rfl _ _ 26 rfl w.heap.size 3 i0 (.int .i64 0) 1 8 Try.underlying26 hi hz0 hz1 hz2 rfl (by decide) _ _ _ rfl (HJ1.out.1.beg.alloc _) ⟨w2.heap.size, 0, none⟩ 1 1 [.int .i64 F.length] rfl rfl (cell_one_new _ _ _) (by simp [Value.oneCell']) (by decide) (by unfold maxLen; omega) (by omega) (by have := HJ1.out.2.1.size; simp; omega) (w2.heap.size + 1) (by simp) ?_)
          intro ga ca w3 hown3 hgrow3 _ _
          obtain ⟨o3, l3, k3⟩ := HJ1.out.1.beg' hgrow3
          have f3 : Owns w3 0 (.slice (some ⟨g, 0, none⟩) (frameL p.ys).length (frameL p.ys).length) (frameL p.ys) := row_kept HJ1.out.2.2.1 k3 (fun k e => rows_apart HJ1.out.2.2.1 HJ1.out.1.beg (by decide) k e)
          have B3 : Below w.heap.size w w3 := HJ1.out.2.1.trans (k3.below HJ1.out.2.1.size (fun k e => (row_at HJ1.out.1.beg e).2.1))
          have b3 : w3.ownsRow w.heap.size 3 1 (.slice (some ⟨ga, 0, none⟩) (l.length + 1) ca) (l ++ [p]).length ((starts 0 (ysOf (l ++ [p]))).map (Value.int .i64)) := by
            rw [ysOf_snoc, starts_snoc, Nat.zero_add, ← framesL_len, ← HF.out, List.map_append, List.length_append]
            exact hown3
          have H3 : Hid (Owns w3 w.heap.size (.slice a6 F.length c6) F ∧ w3.ownsRow w.heap.size 25 1 u7 l.length (l.map Pcd.v) ∧ Owns w3 0 (.slice (some ⟨g, 0, none⟩) (frameL p.ys).length (frameL p.ys).length) (frameL p.ys) ∧ w3.ownsRow w.heap.size 3 1 (.slice (some ⟨ga, 0, none⟩) (l.length + 1) ca) (l ++ [p]).length ((starts 0 (ysOf (l ++ [p]))).map (Value.int .i64)) ∧ Below w.heap.size w w3 ∧ (Value.slice a6 F.length c6).ownBlock ≠ some g) := ⟨by rw [HF.out] at o3 ⊢; exact o3, l3, f3, b3, B3, HJ1.out.2.2.2.1⟩
          have hc3 := HC.out w3 B3
          clear o3 l3 k3 f3 B3 b3 hown3 hgrow3 hc1
          go_wp2_with (at_builtin; refine wpList_append_lies _ rfl _ _ 22 rfl w.heap.size 25 j0 (.slice none 0 0) 1 24 Try.underlying22 hj jz0 jz1 jz2 rfl (by decide) _ _ _ rfl (H3.out.2.1.alloc _) ⟨w3.heap.size, 0, none⟩ 1 1 [.slice p.ao p.ys.length p.cap] rfl rfl (cell_one_new _ _ _) (by simp [Value.oneCell']) (by decide) (by unfold maxLen; omega) (by omega) (by have := H3.out.2.2.2.2.1.size; simp; omega) (w3.heap.size + 1) (by simp) ?_)
          intro gl cl w4 hown4 hgrow4 _ _
          have k4 := kept_grown hgrow4
          have H4 : Hid (Owns w4 w.heap.size (.slice a6 F.length c6) F ∧ w4.ownsRow w.heap.size 25 1 (.slice (some ⟨gl, 0, none⟩) (l.length + 1) cl) (l ++ [p]).length ((l ++ [p]).map Pcd.v) ∧ Owns w4 0 (.slice (some ⟨g, 0, none⟩) (frameL p.ys).length (frameL p.ys).length) (frameL p.ys) ∧ w4.ownsRow w.heap.size 3 1 (.slice (some ⟨ga, 0, none⟩) (l.length + 1) ca) (l ++ [p]).length ((starts 0 (ysOf (l ++ [p]))).map (Value.int .i64)) ∧ Below w.heap.size w w4 ∧ (Value.slice a6 F.length c6).ownBlock ≠ some g) := by
            refine ⟨row_kept H3.out.1 k4 (fun k e => rows_apart H3.out.1 H3.out.2.1 (by decide) k e), ?_, row_kept H3.out.2.2.1 k4 (fun k e => rows_apart H3.out.2.2.1 H3.out.2.1 (by decide) k e), row_kept H3.out.2.2.2.1 k4 (fun k e => rows_apart H3.out.2.2.2.1 H3.out.2.1 (by decide) k e), H3.out.2.2.2.2.1.trans (k4.below H3.out.2.2.2.2.1.size (fun k e => (row_at H3.out.2.1 e).2.1)), H3.out.2.2.2.2.2⟩
            rw [List.map_append, List.length_append]
            exact hown4
          clear k4 hown4 hgrow4 hc3 H3
          go_wp2_with fail
          go_loopw [6, 13] (fun va j wi => ∃ q : Nat, q ≤ p.ys.length + 9 ∧ j = .int .i64 q ∧ Owns wi w.heap.size va (F ++ (frameL p.ys).take q) ∧ va.ownBlock ≠ some g ∧ wi.ownsRow w.heap.size 25 1 (.slice (some ⟨gl, 0, none⟩) (l.length + 1) cl) (l ++ [p]).length ((l ++ [p]).map Pcd.v) ∧ Owns wi 0 (.slice (some ⟨g, 0, none⟩) (frameL p.ys).length (frameL p.ys).length) (frameL p.ys) ∧ wi.ownsRow w.heap.size 3 1 (.slice (some ⟨ga, 0, none⟩) (l.length + 1) ca) (l ++ [p]).length ((starts 0 (ysOf (l ++ [p]))).map (Value.int .i64)) ∧ Below w.heap.size w wi) (fun _ j _ => p.ys.length + 9 - (intOf j).toNat)
          case atStart => exact ⟨0, Nat.zero_le _, rfl, by rw [List.take_zero, List.append_nil]; exact H4.out.1, H4.out.2.2.2.2.2, H4.out.2.1, H4.out.2.2.1, H4.out.2.2.2.1, H4.out.2.2.2.2.1⟩
          case round =>
            obtain ⟨q, hq, rfl, i1, i2, i3, i4, i5, i6⟩ := hrel
            by_cases hqlt : q < p.ys.length + 9
            · have hqf : q < (frameL p.ys).length := by rw [HFL.out]; exact hqlt
              have hcq := owns_cell i4 q hqf
              have HN : Hid _ := take_next (frameL p.ys) q hqf
              have hlq : (F ++ (frameL p.ys).take q).length = F.length + q := by simp; omega
              have HI : Hid (Owns wr w.heap.size u6 (F ++ (frameL p.ys).take q) ∧ u6.ownBlock ≠ some g ∧ wr.ownsRow w.heap.size 25 1 (.slice (some ⟨gl, 0, none⟩) (l.length + 1) cl) (l ++ [p]).length ((l ++ [p]).map Pcd.v) ∧ Owns wr 0 (.slice (some ⟨g, 0, none⟩) (frameL p.ys).length (frameL p.ys).length) (frameL p.ys) ∧ wr.ownsRow w.heap.size 3 1 (.slice (some ⟨ga, 0, none⟩) (l.length + 1) ca) (l ++ [p]).length ((starts 0 (ysOf (l ++ [p]))).map (Value.int .i64)) ∧ Below w.heap.size w wr) := ⟨i1, i2, i3, i4, i5, i6⟩
              clear i1 i2 i3 i4 i5 i6 H4 HJ1
              generalize (frameL p.ys).getD q 0 = x at *
              go_wp2_with (at_builtin; refine wpList_append_lies _ rfl _ _ 25 rfl w.heap.size 5 b0 (.int .u8 0) 1 1 Try.underlying25 hbi bz0 bz1 bz2 rfl (by decide) _ _ _ rfl (HI.out.1.alloc _) ⟨wr.heap.size, 0, none⟩ 1 1 [.int .u8 x] rfl rfl (cell_one_new _ _ _) (by simp [Value.oneCell']) (by decide) (by rw [hlq]; unfold maxLen; omega) (by rw [hlq]; omega) (by have := HI.out.2.2.2.2.2.size; simp; omega) (wr.heap.size + 1) (by simp) ?_)
              intro gi ci w5 hown5 hgrow5 hlies5 _
              have k5 := kept_grown hgrow5
              have H5 : Hid (Owns w5 w.heap.size (.slice (some ⟨gi, 0, none⟩) (F.length + q + 1) ci) (F ++ (frameL p.ys).take (q + 1)) ∧ (Value.slice (some ⟨gi, 0, none⟩) (F.length + q + 1) ci).ownBlock ≠ some g ∧ w5.ownsRow w.heap.size 25 1 (.slice (some ⟨gl, 0, none⟩) (l.length + 1) cl) (l ++ [p]).length ((l ++ [p]).map Pcd.v) ∧ Owns w5 0 (.slice (some ⟨g, 0, none⟩) (frameL p.ys).length (frameL p.ys).length) (frameL p.ys) ∧ w5.ownsRow w.heap.size 3 1 (.slice (some ⟨ga, 0, none⟩) (l.length + 1) ca) (l ++ [p]).length ((starts 0 (ysOf (l ++ [p]))).map (Value.int .i64)) ∧ Below w.heap.size w w5) := by
                refine ⟨?_, fun e => ?_, row_kept HI.out.2.2.1 k5 (fun k e => rows_apart HI.out.2.2.1 HI.out.1 (by decide) k e), row_kept HI.out.2.2.2.1 k5 (fun k e e' => ?_), row_kept HI.out.2.2.2.2.1 k5 (fun k e => rows_apart HI.out.2.2.2.2.1 HI.out.1 (by decide) k e), HI.out.2.2.2.2.2.trans (k5.below HI.out.2.2.2.2.2.size (fun k e => (row_at HI.out.1 e).2.1))⟩
                · have e1 : (F ++ (frameL p.ys).take (q + 1)).length = F.length + q + 1 := by rw [HN.out, ← List.append_assoc, List.length_append, hlq]; rfl
                  show w5.ownsRow w.heap.size 5 1 _ (F ++ (frameL p.ys).take (q + 1)).length _
                  rw [e1, HN.out, ← List.append_assoc, List.map_append]
                  try rw [hlq] at hown5
                  rw [List.map_append, List.append_assoc, List.map_take]
                  exact hown5
                · simp [Value.ownBlock] at e
                  have hgl : g < wr.heap.size := rows_lt HI.out.2.2.2.1 rfl
                  rcases hlies5 with h | h
                  · rw [e] at h; exact HI.out.2.1 h
                  · omega
                · simp [Value.ownBlock] at e
                  subst e
                  exact HI.out.2.1 e'
              clear k5 hown5 hgrow5 hlies5 HI hcq
              go_wp2
              go_roundw
              case rel => exact ⟨q + 1, by omega, by go_num, H5.out⟩
              case measure => simp [intOf]; omega
            · obtain rfl : q = p.ys.length + 9 := by omega
              have HI : Hid (Join w.heap.size (l ++ [p]) u6 (.slice (some ⟨gl, 0, none⟩) (l.length + 1) cl) (.slice (some ⟨ga, 0, none⟩) (l.length + 1) ca) wr ∧ Below w.heap.size w wr) := by
                refine ⟨⟨?_, i3, i5⟩, i6⟩
                rw [ysOf_snoc, framesL_append, ← HF.out]
                have e : framesL [p.ys] = frameL p.ys := by simp [framesL]
                rw [e]
                rw [List.take_of_length_le (by rw [HFL.out]; exact Nat.le_refl _)] at i1
                exact i1
              clear i1 i2 i3 i4 i5 i6 H4 HJ1
              go_wp2
              go_roundw
              case rel => exact ⟨k + 1, by omega, by go_num, by rw [HGy.out]; exact HI.out.1, HI.out.2⟩
              case measure => simp [intOf]; omega
        · have hsz' : isSz p.ys.length = false := by simpa using hsz
          have HGy : Hid (goods (ps.take (k + 1)) = goods (ps.take k)) := by
            have e := HP.out
            exact goods_no hlt (by rw [← e]; exact hsz')
          go_wp2_with fail
          refine (put_bad _ p.ys _ (HJ.out.1.1.below HJ.out.2.2 (Nat.le_refl _)) hsz').mono ?_
          rintro e w1 ⟨rfl, rfl⟩
          go_wp2_with fail
          refine (is_any _ p.ys _ (HJ.out.1.1.below HJ.out.2.2 (Nat.le_refl _))).mono ?_
          rw [hsz']
          rintro e w2 ⟨rfl, rfl⟩
          go_wp2
          go_roundw
          case rel => exact ⟨k + 1, by omega, by go_num, by rw [HGy.out]; exact HJ.out.2⟩
          case measure => simp [intOf]; omega
    · have d0 : decide ((k : Int) < ps.length) = false := by simp; omega
      obtain rfl : k = ps.length := by omega
      rw [List.take_length] at hjn
      have HE : Hid (Join w.heap.size (goods ps) u6 u7 u8 wr ∧ Below w.heap.size w wr) := ⟨hjn, hbw⟩
      clear h3 hjn hbw
      go_wp2
      refine bodyPost_ret (v := .tuple #[u6, u7, u8, .bool true]) ?_ rfl ⟨u6, u7, u8, rfl, HE.out⟩
      have hres : Try.f8.results = #[.tmp 2, .tmp 3, .tmp 4, .tmp 5] := by kernel_rfl
      simp only [results, hres]
      go_simp

end Go.Proofs.Ytabkjcgcnimoaaa
