/- What 'through' of the statements answers: the places and the bodies of the whole frames at the beginning, gathered; all of it new memory. -/
import Derived.Test.YtabkjcgcnimoaaaFr9
namespace Go.Proofs.Ytabkjcgcnimoaaa
open Go.RowKit Go.Shelf
set_option maxRecDepth 8000
attribute [local go_sem] Oper.semAt_some

/-- The places behind frames, the first of which stands at p. -/
def ends : Nat → List (List Int) → List Int
  | _, [] => []
  | p, b :: l => ((p + (b.length + 9) : Nat) : Int) :: ends (p + (b.length + 9)) l

theorem ends_snoc (b : List Int) : ∀ (l : List (List Int)) (p : Nat), ends p (l ++ [b]) = ends p l ++ [((p + pos l + (b.length + 9) : Nat) : Int)]
  | [], p => by simp [ends, pos]
  | c :: l, p => by
    have e : p + pos (c :: l) = p + (c.length + 9) + pos l := by simp only [pos]; omega
    rw [e, List.cons_append]
    simp only [ends]
    rw [ends_snoc b l, List.cons_append]

theorem ends_len : ∀ (l : List (List Int)) (p : Nat), (ends p l).length = l.length
  | [], _ => rfl
  | b :: l, p => by simp [ends, ends_len l]

theorem ends_at : ∀ (l : List (List Int)) (p i : Nat), i < l.length → (ends p l).getD i 0 = ((p + pos (l.take (i + 1)) : Nat) : Int)
  | [], _, _, h => by simp at h
  | b :: l, p, 0, _ => by simp [ends, pos]
  | b :: l, p, i + 1, h => by
    have := ends_at l (p + (b.length + 9)) i (by simpa using h)
    simp only [ends, List.getD_cons_succ, this, List.take_succ_cons, pos]
    congr 1
    omega

/-- The places of what has come are the right ones. -/
def Right (l : List Item) : Prop := l.map endV = (ends 0 (bods (flat l))).map (Value.int .i64)

theorem Right.snoc {pre : List Item} {x : Item} (h : Right pre) (hx : x.1 = pos (bods (flat pre))) : Right (pre ++ [x]) := by
  unfold Right at h ⊢
  rw [flat_snoc, bods_snoc, ends_snoc, List.map_append, List.map_append, h, Nat.zero_add, ← hx]
  rfl

theorem bods_len (l : List Item) : (bods (flat l)).length = l.length := by simp [bods, flat]

theorem pos_ge : ∀ l : List (List Int), l.length ≤ pos l
  | [] => Nat.le_refl _
  | b :: l => by have := pos_ge l; simp only [pos, List.length_cons]; omega

theorem come_len {xs : List Int} {l : List Item} (h : Chain xs 0 (bods (flat l))) : l.length ≤ xs.length := by
  have h1 := chain_le _ 0 (Nat.zero_le _) h
  have h2 := pos_ge (bods (flat l))
  rw [bods_len] at h2
  omega

/-- What a walk has gathered. -/
structure Seen (n₀ : Nat) (xs : List Int) (l : List Item) (vp vb : Value) (V : World) : Prop where
  whole : Bodies xs (bods (flat l))
  right : Right l
  pl : V.ownsRow n₀ 3 1 vp l.length (l.map endV)
  bo : V.ownsRow n₀ 25 1 vb l.length (l.map itemV)
  it : ∀ x ∈ l, Owns V n₀ (itemV x) x.2.1
  nd : (l.map (·.2.2)).Nodup

theorem allD_lt {W : World} {c B : Nat} {u : Value} {xs : List Int} (hc : ∃ o, W.heap[c]? = some o) (ho : Owns W B u xs) : ∀ k, (k = c ∨ u.ownBlock = some k) → k < W.heap.size := fun k h => by
  rcases h with rfl | h
  · exact lt_of_block hc.choose_spec
  · exact rows_lt ho h

set_option maxHeartbeats 1000000 in
theorem through_any (v : Value) (xs : List Int) (w : World) (hs : Sees w v xs) (hb : Byts xs) (hl : xs.length ≤ 4000000000000) :
    Calls Try.prog 9 #[v] w fun e w' => ∃ l vp vb, e = .returned (.agg #[vp, vb]) ∧ Seen w.heap.size xs l vp vb w' ∧ Below w.heap.size w w' := by
  obtain ⟨ao, n, cp, hv⟩ : ∃ ao n c, v = .slice ao n c := by
    obtain ⟨ao, c, e, _⟩ := hs
    exact ⟨_, _, _, e⟩
  subst hv
  have HS : Hid (Sees w (.slice ao n cp) xs ∧ Byts xs ∧ xs.length ≤ 4000000000000) := ⟨hs, hb, hl⟩
  clear hs hb hl
  refine (callsIn_wide (n := 0)).1 ?_
  refine callsIn_of_wp_marks Try.func9 rfl trivial ?_ rfl
  simp only [Try.ntmps9, List.size_toArray, List.length_cons, List.length_nil, Nat.reduceAdd, Nat.reduceSub, Array.replicate_succ, Array.replicate_zero, List.push_toArray, List.append_toArray, List.nil_append, List.cons_append]
  gi_wp2_with fail
  obtain ⟨A, hA⟩ : ∃ A, (w.alloc (.cells #[.slice none 0 0, .slice none 0 0] 30)).alloc (.cells #[.slice none 0 0, .slice none 0 0] 30) = A := ⟨_, rfl⟩
  have a0 : A.heap[w.heap.size]? = some (.cells #[.slice none 0 0, .slice none 0 0] 30 (0, 0)) := by
    rw [← hA, Below.heap_alloc _ _ _ (by simp)]; exact heap_alloc_new _ _
  have a1 : A.heap[w.heap.size + 1]? = some (.cells #[.slice none 0 0, .slice none 0 0] 30 (0, 0)) := by
    rw [← hA]; have := heap_alloc_new (w.alloc (.cells #[.slice none 0 0, .slice none 0 0] 30)) (.cells #[.slice none 0 0, .slice none 0 0] 30); rwa [World.size_alloc] at this
  have AB : Below w.heap.size w A := by rw [← hA]; exact ((Below.refl _ w).alloc (Nat.le_refl _) _).alloc (by simp) _
  have az : A.heap.size = w.heap.size + 2 := by rw [← hA]; simp
  rw [hA]
  refine ⟨trivial, rfl, (callsIn_wide.2 (all_any _ xs A (HS.out.1.below AB (Nat.le_refl _)) (by have := HS.out.2.2; omega))).mono ?_⟩
  rintro e w1 ⟨c, u, rfl, hcge, hc, ho, hb1⟩
  clear hA
  have b0 : w1.heap[w.heap.size]? = some (.cells #[.slice none 0 0, .slice none 0 0] 30 (0, 0)) := by rw [hb1.block _ (by omega)]; exact a0
  have b1 : w1.heap[w.heap.size + 1]? = some (.cells #[.slice none 0 0, .slice none 0 0] 30 (0, 0)) := by rw [hb1.block _ (by omega)]; exact a1
  have W1B : Below w.heap.size w w1 := AB.trans (hb1.mono (by omega))
  have hDlt := allD_lt ⟨_, hc⟩ ho
  have hDge : ∀ k, (k = c ∨ u.ownBlock = some k) → w.heap.size + 2 ≤ k := fun k h => by
    rcases h with rfl | h
    · omega
    · have := (row_at ho h).2.1; omega
  have H1 : Hid (w1.heap[c]? = some (.cells #[u] 25 (0, 0)) ∧ Owns w1 A.heap.size u xs) := ⟨hc, ho⟩
  clear hc ho a0 a1 AB hb1 hcge
  gi_wp2_with fail
  refine range_R (gf := 21) (lb := #[.pointer (some ⟨c, 0, none⟩)]) rfl (enters_of Try.func21 (by kernel_rfl) rfl)
    (all1_seq c u A.heap.size xs w1 H1.out.1 H1.out.2 HS.out.2.1 (by have := HS.out.2.2; omega)) (fun _ => rfl) hDlt
    (fun pre x Wb W l r o h hl => allR_putObj o h hl)
    (fun D pre V => ∃ vp vb, Gath w.heap.size (w.heap.size + 1) 30 D pre vp vb V ∧ V.heap[w.heap.size]? = some (.cells #[.slice none 0 0, .slice none 0 0] 30 (0, 0)) ∧ ¬ D w.heap.size ∧ Mine w.heap.size w (fun k => k = c ∨ u.ownBlock = some k) D V ∧ Right pre)
    (fun _ _ _ _ => False)
    (fun D D' s V V' h hk hD => by
      obtain ⟨vp, vb, h1, h2, h3, h4, h5⟩ := h
      exact ⟨vp, vb, h1.stays hk hD, hk.heap h2 (fun hd => h3 hd.1), keep_new h2 h3 hD, h4.stays hk hD, h5⟩)
    (fun _ _ _ _ _ _ h _ _ => h)
    ⟨.slice none 0 0, .slice none 0 0, {
        box := b1, pl := World.ownsRow_nil _ _ _ _, bo := World.ownsRow_nil _ _ _ _, it := fun x hx => by simp at hx, nd := by simp
        dB := fun h => by have := hDge _ h; omega
        dp := fun k e => by simp [Value.ownBlock] at e
        db := fun k e => by simp [Value.ownBlock] at e
        di := fun x hx => by simp at hx
        dl := hDlt }, b0, fun h => by have := hDge _ h; omega, ⟨Nat.le_refl _, W1B, fun k hk hn => absurd hk hn⟩, rfl⟩
    (fun x => { tmps := #[.slice ao n cp, undef, .pointer (some ⟨w.heap.size, 0, none⟩), .pointer (some ⟨w.heap.size + 1, 0, none⟩), endV x, itemV x, .slice ao n cp, .func (.func 21) #[] #[.pointer (some ⟨c, 0, none⟩)], endV x, itemV x, undef, undef, undef, undef, undef, undef, undef, undef, undef, undef, undef, undef, undef], defers := [] }) ?assign ?body ?done ?stop
  case assign =>
    intro l x W K hK
    simp only [itemEnc, endV, itemV] at hK ⊢
    gi_wp2
    exact hK
  case body =>
    rintro l D pre x Wb V hl hrec hDl hsub ⟨vp, vb, hG, hR0, nR0, hM, hRt⟩ hk hr
    obtain ⟨p1, p2, p3, hvp⟩ := row_shape hG.pl
    obtain ⟨p4, p5, p6, hvb⟩ := row_shape hG.bo
    subst hvp
    subst hvb
    have hG2 : Gath w.heap.size (w.heap.size + 1) 30 D pre (.slice p1 p2 p3) (.slice p4 p5 p6) V := hG.stays hk (fun k h => .inl h)
    have hM2 : Mine w.heap.size w (fun k => k = c ∨ u.ownBlock = some k) D V := hM.stays hk (fun k h => .inl h)
    have hR2 : V.heap[w.heap.size]? = some (.cells #[.slice none 0 0, .slice none 0 0] 30 (0, 0)) := hk.heap hR0 (fun hd => nR0 hd.1)
    have hge : w.heap.size ≤ x.2.2 := by have := hM.2.1.size; have := hr.2.2.1; omega
    have hxo : Owns V w.heap.size (itemV x) x.2.1 := owns_base hr.2.2.2 (fun k e => by rw [item_block] at e; simp at e; omega)
    have hnx : ¬ D x.2.2 := fun h => by have := hG.dl _ h; have := hr.2.2.1; omega
    have hfr : x.2.2 ∉ pre.map (·.2.2) := fun h => by
      obtain ⟨y, hy, e⟩ := List.mem_map.1 h
      have := (row_at (hG.it y hy) (item_block y)).2.2
      have := hr.2.2.1
      omega
    have hlen : pre.length ≤ 4000000000000 := by
      have := come_len hr.2.1
      simp at this
      have := HS.out.2.2
      omega
    obtain ⟨g1, c1, v1, g2, c2, v4, e1, q1, q2, q3, e2, q4, q5, G5, K5, B5, A5⟩ := gath_round hG2 x (by decide) (by decide) (by decide) hxo hnx hfr hlen hM2.2.1.size (by omega)
    have HR : Hid (Gath w.heap.size (w.heap.size + 1) 30 D (pre ++ [x]) (.slice (some ⟨g1, 0, none⟩) (pre.length + 1) c1) (.slice (some ⟨g2, 0, none⟩) (pre.length + 1) c2) (v4.setCell ⟨w.heap.size + 1, 1, none⟩ (.slice (some ⟨g2, 0, none⟩) (pre.length + 1) c2)) ∧ Kept V (v4.setCell ⟨w.heap.size + 1, 1, none⟩ (.slice (some ⟨g2, 0, none⟩) (pre.length + 1) c2)) (fun k => ¬ D k) ∧
        (v4.setCell ⟨w.heap.size + 1, 1, none⟩ (.slice (some ⟨g2, 0, none⟩) (pre.length + 1) c2)).heap[w.heap.size]? = some (.cells #[.slice none 0 0, .slice none 0 0] 30 (0, 0)) ∧ ¬ D w.heap.size ∧ Mine w.heap.size w (fun k => k = c ∨ u.ownBlock = some k) D (v4.setCell ⟨w.heap.size + 1, 1, none⟩ (.slice (some ⟨g2, 0, none⟩) (pre.length + 1) c2)) ∧ Right (pre ++ [x])) := by
      refine ⟨G5, K5, A5.heap hR2 (fun h => ?_), nR0, ⟨hM2.1, hM2.2.1.trans B5, hM2.2.2⟩, hRt.snoc hr.1⟩
      rcases h with h | h | h
      · omega
      · obtain ⟨⟨cs, h1⟩, _⟩ := row_at hG2.pl h
        exact ne_ty h1 hR2 (by decide) rfl
      · obtain ⟨⟨cs, h1⟩, _⟩ := row_at hG2.bo h
        exact ne_ty h1 hR2 (by decide) rfl
    have cb0 : V.cell? ⟨w.heap.size + 1, 0, none⟩ = some (.slice p1 p2 p3) := cell_of_row V (w.heap.size + 1) 0 _ _ _ hG2.box
    have cb1 : V.cell? ⟨w.heap.size + 1, 1, none⟩ = some (.slice p4 p5 p6) := cell_of_row V (w.heap.size + 1) 1 _ _ _ hG2.box
    clear hG hG2 hM hM2 hR0 hR2 hge hxo hnx hfr hlen G5 K5 B5 A5 hk hr hRt nR0 hsub hDl hrec b0 b1 W1B hDge hDlt
    simp only [endV, itemV] at e1 e2 ⊢
    generalize ((x.1 + (x.2.1.length + 9) : Nat) : Int) = q at *
    have E1 : Hid _ := e1
    have E2 : Hid _ := e2
    clear e1 e2
    gi_wp2_with (gi_at_builtin; first | refine wpListIn_append_run rfl _ _ 26 rfl rfl rfl E1.out ?_ | refine wpListIn_append_run rfl _ _ 22 rfl rfl rfl E2.out ?_)
    exact ⟨HR.out.2.1, _, _, HR.out.1, HR.out.2.2⟩
  case done =>
    rintro d D ys V hd hDd hS ⟨vp, vb, hG, hR0, nR0, hM, hRt⟩ hK
    obtain ⟨p1, p2, p3, hvp⟩ := row_shape hG.pl
    obtain ⟨p4, p5, p6, hvb⟩ := row_shape hG.bo
    subst hvp
    subst hvb
    have cb0 : V.cell? ⟨w.heap.size + 1, 0, none⟩ = some (.slice p1 p2 p3) := cell_of_row V (w.heap.size + 1) 0 _ _ _ hG.box
    have cb1 : V.cell? ⟨w.heap.size + 1, 1, none⟩ = some (.slice p4 p5 p6) := cell_of_row V (w.heap.size + 1) 1 _ _ _ hG.box
    have cr0 : V.cell? ⟨w.heap.size, 0, none⟩ = some (.slice none 0 0) := cell_of_row V w.heap.size 0 _ _ _ hR0
    have cr1 : V.cell? ⟨w.heap.size, 1, none⟩ = some (.slice none 0 0) := cell_of_row V w.heap.size 1 _ _ _ hR0
    have fr0 : V.frozen? ⟨w.heap.size, 0, none⟩ = false := frozen_of_row V w.heap.size 0 _ _ hR0
    have fr1 : V.frozen? ⟨w.heap.size, 1, none⟩ = false := frozen_of_row V w.heap.size 1 _ _ hR0
    obtain ⟨X, hX⟩ : ∃ X, X = (V.setCell ⟨w.heap.size, 0, none⟩ (.slice p1 p2 p3)).setCell ⟨w.heap.size, 1, none⟩ (.slice p4 p5 p6) := ⟨_, rfl⟩
    have kX : Kept V X (· = w.heap.size) := by rw [hX]; exact ((Kept.refl V (· = w.heap.size)).setCell ⟨w.heap.size, 0, none⟩ _ (fun _ => rfl)).setCell ⟨w.heap.size, 1, none⟩ _ (fun _ => rfl)
    have dX : X.heap[d]? = some (.deferred (some [])) := kX.heap hK (fun e => by have := lt_of_block b1; omega)
    have kY : Kept V (X.putObj d (.deferred none)) (fun k => k = w.heap.size ∨ k = d) := (kX.mono (fun k _ e => .inl e)).trans (kept_putObj X d _) (fun k _ e => .inr e)
    have xbox : X.heap[w.heap.size]? = some (.cells #[.slice p1 p2 p3, .slice p4 p5 p6] 30 (0, 0)) := by
      rw [hX]; exact (heap_set2 (heap_set2 hR0 _).1 _).2
    have ybox : (X.putObj d (.deferred none)).heap[w.heap.size]? = some (.cells #[.slice p1 p2 p3, .slice p4 p5 p6] 30 (0, 0)) := by
      rw [World.putObj_heap_other (by have := lt_of_block b1; omega)]; exact xbox
    have y0 : (X.putObj d (.deferred none)).cell? ⟨w.heap.size, 0, none⟩ = some (.slice p1 p2 p3) := cell_of_row _ w.heap.size 0 _ _ _ ybox
    have y1 : (X.putObj d (.deferred none)).cell? ⟨w.heap.size, 1, none⟩ = some (.slice p4 p5 p6) := cell_of_row _ w.heap.size 1 _ _ _ ybox
    have nn : ∀ {k : Nat} {cs : Array Value} {t : TypeId}, V.heap[k]? = some (.cells cs t (0, 0)) → t ≠ 30 → ¬ (k = w.heap.size ∨ k = d) := fun h ht e => by
      rcases e with rfl | rfl
      · exact ne_ty h hR0 ht rfl
      · rw [h] at hK; cases hK
    have HE : Hid (Seen w.heap.size xs ys (.slice p1 p2 p3) (.slice p4 p5 p6) (X.putObj d (.deferred none)) ∧ Below w.heap.size w (X.putObj d (.deferred none))) := by
      refine ⟨⟨hS, hRt, row_kept hG.pl kY (fun k e => ?_), row_kept hG.bo kY (fun k e => ?_), fun x hx => row_kept (hG.it x hx) kY (fun k e => ?_), hG.nd⟩, hM.2.1.trans (kY.below hM.2.1.size (fun k e => by rcases e with rfl | rfl; exact Nat.le_refl _; have := lt_of_block b1; omega))⟩
      · obtain ⟨⟨cs, h⟩, _⟩ := row_at hG.pl e; exact nn h (by decide)
      · obtain ⟨⟨cs, h⟩, _⟩ := row_at hG.bo e; exact nn h (by decide)
      · obtain ⟨⟨cs, h⟩, _⟩ := row_at (hG.it x hx) e; exact nn h (by decide)
    have HX : Hid (X = (V.setCell ⟨w.heap.size, 0, none⟩ (.slice p1 p2 p3)).setCell ⟨w.heap.size, 1, none⟩ (.slice p4 p5 p6) ∧ X.heap[d]? = some (.deferred (some []))) := ⟨hX, dX⟩
    clear hG hR0 hM hRt hK hS kX kY xbox ybox dX hX nn hDd b0 b1 W1B hDge hDlt
    gi_wp2
    rw [← HX.out.1]
    refine ⟨by simp, .inl ⟨_, _, rfl, run_takeDeferred HX.out.2, ?_⟩⟩
    refine ⟨.agg #[.slice p1 p2 p3, .slice p4 p5 p6], ?_, ys, _, _, rfl, HE.out⟩
    have hres : Try.f9.results = #[.cell 2 30] := by kernel_rfl
    simp only [results, hres]
    go_simp
  case stop =>
    rintro d D c pre W _ _ _ h _
    exact h.elim

end Go.Proofs.Ytabkjcgcnimoaaa
