/- What frame.All answers: an iterator over the whole frames at the beginning of what was handed in, as it was at the call; each body is new memory. -/
import Derived.Test.YtabkjcgcnimoaaaFr7
namespace Go.Proofs.Ytabkjcgcnimoaaa
open Go.RowKit Go.Shelf
set_option maxRecDepth 8000
attribute [local go_sem] Oper.semAt_some

theorem owns_ne {w : World} {B c : Nat} {u : Value} {xs : List Int} {cs : Array Value} {T : TypeId} (ho : Owns w B u xs) (hc : w.heap[c]? = some (.cells cs T (0, 0))) (hT : T ≠ 5) : u.ownBlock ≠ some c := by
  rcases ho.2 with ⟨rfl, _⟩ | ⟨g, cap, cur, rfl, _, h2, _⟩
  · simp [Value.ownBlock]
  · intro e
    simp [Value.ownBlock] at e
    subst e
    rw [hc] at h2
    simp at h2
    exact hT h2.2

theorem all_any (v : Value) (xs : List Int) (w : World) (h : Sees w v xs) (hl : xs.length ≤ 140737488355328) : Calls Try.prog 15 #[v] w fun e w' =>
    ∃ c u, e = .returned (.func (.func 21) #[] #[.pointer (some ⟨c, 0, none⟩)]) ∧ w.heap.size ≤ c ∧ w'.heap[c]? = some (.cells #[u] 25 (0, 0)) ∧ Owns w' w.heap.size u xs ∧ Below w.heap.size w w' := by
  have hmf : ∀ (fn : Fn) (first cap : Array Value) (w : World), (Instr.makeFunc fn first cap).run Try.prog w = .ok (.func fn first cap) w := fun _ _ _ _ => rfl
  have H : Hid (Sees w v xs) := h
  obtain ⟨ao, cap, rfl, g1, g2, g0, g3⟩ := h
  clear g3 g0
  unfold maxLen at g2
  go_enter Try.func15, Try.ntmps15
  go_wp2_with fail
  refine (clone_any _ xs _ H.out hl).mono ?_
  rintro e w1 ⟨u, rfl, ho, hb⟩
  obtain ⟨ao', n', c', rfl⟩ := owns_shape ho
  have H1 : Hid (Owns w1 w.heap.size (.slice ao' n' c') xs ∧ Below w.heap.size w w1) := ⟨ho, hb⟩
  clear ho hb
  go_wp2
  go_ret
  exact ⟨w1.heap.size, _, rfl, H1.out.2.size, heap_alloc_new _ _, H1.out.1.alloc _, H1.out.2.alloc H1.out.2.size _⟩

/-- What is handed out: a place, the body of the frame there, the block in which it lies. -/
abbrev Item := Nat × List Int × Nat
def itemV (x : Item) : Value := .slice (some ⟨x.2.2, 0, none⟩) x.2.1.length x.2.1.length
def itemEnc (x : Item) : Array Value := #[.int .i64 ((x.1 + (x.2.1.length + 9) : Nat) : Int), itemV x]
def flat (l : List Item) : List (Nat × List Int) := l.map (fun x => (x.1, x.2.1))
theorem flat_snoc (l : List Item) (x : Item) : flat (l ++ [x]) = flat l ++ [(x.1, x.2.1)] := by simp [flat]

def allR (xs : List Int) (pre : List Item) (x : Item) (Wb W : World) : Prop :=
  x.1 = pos (bods (flat pre)) ∧ Chain xs 0 (bods (flat (pre ++ [x]))) ∧ Wb.heap.size ≤ x.2.2 ∧ Owns W 0 (itemV x) x.2.1

theorem allR_putObj {xs : List Int} {pre : List Item} {x : Item} {Wb W : World} {l : Nat} {r : Loop} (o : Obj) (h : allR xs pre x Wb W) (hl : W.heap[l]? = some (.loop r)) : allR xs pre x Wb (W.putObj l o) :=
  ⟨h.1, h.2.1, h.2.2.1, ownsRow_putObj h.2.2.2 o hl rfl⟩

theorem shaped_own {w : World} {B : Nat} {u : Value} {xs : List Int} (h : Owns w B u xs) : Shaped u xs := by
  rcases h.2 with ⟨rfl, h0⟩ | ⟨g, cap, cur, rfl, _⟩
  · exact .inl ⟨rfl, List.eq_nil_of_length_eq_zero h0⟩
  · exact .inr ⟨g, 0, cap, rfl⟩

theorem owns_same {w w' : World} {B : Nat} {u : Value} {xs : List Int} (h : Owns w B u xs) (he : ∀ k, u.ownBlock = some k → w'.heap[k]? = w.heap[k]?) : Owns w' B u xs := by
  refine ⟨h.1, ?_⟩
  rcases h.2 with h | ⟨g, cap, cur, rfl, h1, h2, h3⟩
  · exact .inl h
  · exact .inr ⟨g, cap, cur, rfl, h1, (he g rfl).trans h2, h3⟩

set_option maxHeartbeats 1000000 in
theorem all1_seq (c : Nat) (u : Value) (B : Nat) (xs : List Int) (w : World) (hc : w.heap[c]? = some (.cells #[u] 25 (0, 0))) (ho : Owns w B u xs) (hb : Byts xs) (hl : xs.length ≤ 140737488355328) :
    SeqR Try.prog 21 #[.pointer (some ⟨c, 0, none⟩)] itemEnc (allR xs) (fun l => Bodies xs (bods (flat l))) (fun l => Chain xs 0 (bods (flat l))) (fun k => k = c ∨ u.ownBlock = some k) w := by
  intro l J Jx W hD0 hsz hJ hJx hY h0
  have hcW : W.heap[c]? = some (.cells #[u] 25 (0, 0)) := (hD0 c (.inl rfl)).trans hc
  have hoW : Owns W B u xs := owns_same ho (fun k hk => hD0 k (.inr hk))
  have hlc : c < W.heap.size := lt_of_block hcW
  have hlu : ∀ k, u.ownBlock = some k → k < W.heap.size := fun k hk => rows_lt hoW hk
  have hcell : W.cell? ⟨c, 0, none⟩ = some u := cell_of_row W c 0 _ _ _ hcW
  obtain ⟨ao, n, cp, hu⟩ := owns_shape hoW
  subst hu
  have HA : Hid (W.heap[c]? = some (.cells #[.slice ao n cp] 25 (0, 0)) ∧ Owns W B (.slice ao n cp) xs ∧ Byts xs ∧ xs.length ≤ 140737488355328) := ⟨hcW, hoW, hb, hl⟩
  have HJ : Hid (Stays (fun k => k = c ∨ (Value.slice ao n cp).ownBlock = some k) J ∧ Stays (fun k => k = c ∨ (Value.slice ao n cp).ownBlock = some k) Jx) := ⟨hJ, hJx⟩
  have HY : Hid _ := hY
  have H0 : Hid _ := h0
  have HL : Hid (∀ k, (Value.slice ao n cp).ownBlock = some k → k < W.heap.size) := hlu
  clear hc ho hb hl hD0 hcW hoW hJ hJx hY h0 hlu
  have hnil : ∀ w : World, (binOp BinOp.eql 48 (.func (.yield l) #[] #[]) .nilFunc).run Try.prog w = .ok (.bool false) w := fun _ => by kernel_rfl
  refine (callsIn_wide (n := 0)).1 ?_
  refine callsIn_of_wp_marks Try.func21 rfl trivial ?_ rfl
  simp only [Try.ntmps21, List.size_toArray, List.length_cons, List.length_nil, Nat.reduceAdd, Nat.reduceSub, Array.replicate_succ, Array.replicate_zero, List.push_toArray, List.append_toArray, List.nil_append, List.cons_append]
  gi_wp2_with fail
  refine ⟨trivial, rfl, (callsIn_wide.2 (cuts_any _ _ _ _)).mono ?_⟩
  rintro e w1 ⟨rfl, rfl⟩
  clear hnil
  gi_wp2_with fail
  obtain ⟨W2, hW2⟩ : ∃ W2, (W.alloc (.cells #[.func (.yield l) #[] #[]] 48)).alloc (.cells #[.slice ao n cp] 25) = W2 := ⟨_, rfl⟩
  have y2 : W2.heap[W.heap.size]? = some (.cells #[.func (.yield l) #[] #[]] 48 (0, 0)) := by
    rw [← hW2, Below.heap_alloc _ _ _ (by simp)]; exact heap_alloc_new _ _
  have c2 : W2.heap[W.heap.size + 1]? = some (.cells #[.slice ao n cp] 25 (0, 0)) := by
    rw [← hW2]; have := heap_alloc_new (W.alloc (.cells #[.func (.yield l) #[] #[]] 48)) (.cells #[.slice ao n cp] 25); rwa [World.size_alloc] at this
  have B2 : Below W.heap.size W W2 := by rw [← hW2]; exact ((Below.refl _ W).alloc (Nat.le_refl _) _).alloc (by simp) _
  have z2 : W2.heap.size = W.heap.size + 2 := by rw [← hW2]; simp
  rw [hW2]
  clear hW2
  have o2 : Owns W2 B (.slice ao n cp) xs := owns_same HA.out.2.1 (fun k hk => B2.block k (HL.out k hk))
  have hul : ∀ k, (Value.slice ao n cp).ownBlock = some k → k < W.heap.size := HL.out
  have nuc : (Value.slice ao n cp).ownBlock ≠ some c := owns_ne HA.out.2.1 HA.out.1 (by decide)
  have hst : ∀ (X : Blocks → List Item → World → Prop), Stays (fun k => k = c ∨ (Value.slice ao n cp).ownBlock = some k) X → Stays (fun k => k = W.heap.size + 1 ∨ (Value.slice ao n cp).ownBlock = some k) (fun D (pre : List (Nat × List Int)) V => ∃ po, flat po = pre ∧ X (fun k => D k ∨ k = c ∨ k = W.heap.size) po V ∧ V.heap[W.heap.size]? = some (.cells #[.func (.yield l) #[] #[]] 48 (0, 0)) ∧ ¬ D W.heap.size ∧ ¬ D c ∧ c < V.heap.size) := by
    rintro X hX D D' s V V' ⟨po, hp, hx, hy, n1, n2, hcv⟩ hk hD
    refine ⟨po, hp, hX _ _ _ _ _ hx (hk.mono (fun k _ h => ⟨.inl h.1, fun h' => ?_⟩)) (fun k hk' => ?_), hk.heap hy (fun h => n1 h.1), keep_new hy n1 hD, fun h => ?_, Nat.lt_of_lt_of_le hcv hk.size⟩
    · rcases h' with rfl | h'
      · exact n2 h.1
      · exact h.2 (.inr h')
    · rcases hk' with hk' | hk' | hk'
      · rcases hD k hk' with h | h
        · exact .inl (.inl h)
        · exact .inr h
      · exact .inl (.inr (.inl hk'))
      · exact .inl (.inr (.inr hk'))
    · rcases hD c h with h | h
      · exact n2 h
      · omega
  refine range_R (gf := 22) (lb := #[.pointer (some ⟨W.heap.size + 1, 0, none⟩)]) rfl (enters_of Try.func22 (by kernel_rfl) rfl)
    (cuts1_seq (W.heap.size + 1) (.slice ao n cp) 25 xs W2 c2 (Sees.own o2) (shaped_own o2) HA.out.2.2.1 HA.out.2.2.2) (fun _ => rfl)
    (fun k hk => hk.elim (fun e => by omega) (fun h => by have := hul k h; omega))
    (fun pre x Wb W l r o h hl => ⟨h.1, h.2.1, sees_putObj h.2.2 hl o⟩)
    (fun D pre V => ∃ po, flat po = pre ∧ J (fun k => D k ∨ k = c ∨ k = W.heap.size) po V ∧ V.heap[W.heap.size]? = some (.cells #[.func (.yield l) #[] #[]] 48 (0, 0)) ∧ ¬ D W.heap.size ∧ ¬ D c ∧ c < V.heap.size)
    (fun cd D pre V => cd = .ret ∧ ∃ po, flat po = pre ∧ Jx (fun k => D k ∨ k = c ∨ k = W.heap.size) po V ∧ V.heap[W.heap.size]? = some (.cells #[.func (.yield l) #[] #[]] 48 (0, 0)) ∧ ¬ D W.heap.size ∧ ¬ D c ∧ c < V.heap.size)
    (hst J HJ.out.1)
    (fun cd D D' s V V' h hk hD => ⟨h.1, hst Jx HJ.out.2 D D' s V V' h.2 hk hD⟩)
    ⟨[], rfl, HJ.out.1 _ _ _ _ _ H0.out (kept_below B2 _) (fun k hk => ?_), y2, fun h => h.elim (fun e => by omega) (fun h => by have := hul _ h; omega), fun h => h.elim (fun e => by omega) (fun h => nuc h), by omega⟩
    (fun x => { tmps := #[.func (.yield l) #[] #[], .pointer (some ⟨c, 0, none⟩), .pointer (some ⟨W.heap.size, 0, none⟩), .int .i64 ((x.1 + (x.2.length + 9) : Nat) : Int), cutV (.slice ao n cp) x.1 x.2.length, undef, .func (.yield l) #[] #[], .bool false, .slice ao n cp, .func (.func 22) #[] #[.pointer (some ⟨W.heap.size + 1, 0, none⟩)], .int .i64 ((x.1 + (x.2.length + 9) : Nat) : Int), cutV (.slice ao n cp) x.1 x.2.length, undef, undef, undef, undef, undef, undef, undef, undef, undef, undef, undef], defers := [] }) ?assign ?body ?done ?stop
  · rcases hk with (hk | hk) | hk | hk
    · exact .inr ⟨by omega, by omega⟩
    · exact .inl (.inr hk)
    · exact .inl (.inl hk)
    · exact .inr ⟨by omega, by omega⟩
  case assign =>
    intro l x W K hK
    simp only [cutEnc]
    gi_wp2
    exact hK
  case body =>
    rintro l' D pre x Wb V hl' hrec hDl hsub ⟨po, hpo, hjb, hyb, nY, nc, hcv⟩ hk hr
    obtain ⟨i0, hi, hz0, hz1, hz2⟩ := info_parts Try.infoByte
    have hyV : V.heap[W.heap.size]? = some (.cells #[.func (.yield l) #[] #[]] 48 (0, 0)) := hk.heap hyb (fun h => nY h.1)
    have hjV : J (fun k => D k ∨ k = c ∨ k = W.heap.size) po V := HJ.out.1 _ _ _ _ _ hjb (hk.mono (fun k _ h => ⟨.inl h.1, fun h' => by
      rcases h' with rfl | h'
      · exact nc h.1
      · exact h.2 (.inr h')⟩)) (fun k h => .inl h)
    have hcV : c < V.heap.size := Nat.lt_of_lt_of_le hcv hk.size
    have hYV : W.heap.size < V.heap.size := lt_of_block hyV
    have hch := hr.2.1
    rw [bods_snoc] at hch
    have hfa := ((chain_snoc xs x.2 (bods pre) 0).1 hch).2
    have hpos : 0 < x.2.length := hfa.1
    have hmx : x.2.length ≤ 1048576 := by
      have h1 := bodyLen_size (xs.drop (0 + pos (bods pre))) (by rw [hfa.2.1]; omega)
      rw [hfa.2.1] at h1
      simp [isSz] at h1
      omega
    obtain ⟨ao', cap', ec, q1, q2, q0, q3⟩ := hr.2.2
    have hsee : Sees V (.slice ao' x.2.length cap') x.2 := by rw [← ec]; exact hr.2.2
    rw [ec]
    obtain ⟨w2, hm2, r1, r2⟩ := run_make_full (P := Try.prog) V V.heap.size 25 5 i0 (.int .u8 0) 1 Try.underlying25 hi hz0 hz1 .i64 .i64 x.2.length (by rw [hz2]; omega) (by unfold maxLen; omega) (Nat.le_refl _)
    rw [Nat.mul_one] at r1
    have hown1 := made_owns (show w2.ownsRow V.heap.size 5 1 (.slice (some ⟨V.heap.size, 0, none⟩) x.2.length x.2.length) x.2.length (madeCells #[.int .u8 0] x.2.length).toList from r1)
    have hbel0 : Below V.heap.size V w2 := (Below.refl _ _).grown r2 (Nat.le_refl _) (fun k hk => by simp at hk)
    obtain ⟨Z, hZ⟩ : ∃ Z, Z = List.replicate x.2.length (0 : Int) := ⟨_, rfl⟩
    have hz : Z.length = x.2.length := by rw [hZ]; simp
    rw [← hZ] at hown1
    have hO : Owns w2 V.heap.size (.slice (some ⟨V.heap.size, 0, none⟩) Z.length Z.length) Z := by rw [hz]; rw [hz] at hown1; exact hown1
    obtain ⟨w3, Z3, hr3, hZ3, hO3, hB3⟩ := run_cp (off := 0) (dl := x.2.length) (dc := x.2.length) hO 3 (hsee.below hbel0 (Nat.le_refl _)) (nil_of hpos) (by omega) (by omega)
    have e3 : Z3 = x.2 := by
      rw [hZ3, List.take_zero, List.nil_append, Nat.zero_add, List.drop_eq_nil_of_le (by omega), List.append_nil]
    subst e3
    have B3 : Below V.heap.size V w3 := hbel0.trans (hB3.below hbel0.size (fun k hk => by omega))
    have hy3 : w3.cell? ⟨W.heap.size, 0, none⟩ = some (.func (.yield l) #[] #[]) := cell_of_row w3 W.heap.size 0 _ _ _ (by rw [B3.block _ hYV]; exact hyV)
    obtain ⟨fn, tmps, assign, body, hy, hRd⟩ := HY.out (fun k => D k ∨ k = c ∨ k = W.heap.size) po (x.1, x.2, V.heap.size) V w3 (fun k h => by
      rcases h with h | h
      · exact .inr (.inl h)
      · exact .inl (hsub k (.inr h))) hjV (kept_below B3 _) ⟨by rw [hpo]; exact hr.1, by rw [flat_snoc, hpo]; exact hr.2.1, Nat.le_refl _, owns_mono hO3 (Nat.zero_le _)⟩
    simp only [itemEnc, itemV] at hy
    have HB : Hid (Below V.heap.size V w3 ∧ flat po = pre ∧ ¬ D W.heap.size ∧ ¬ D c ∧ W.heap.size < V.heap.size ∧ c < V.heap.size ∧ V.heap[W.heap.size]? = some (.cells #[.func (.yield l) #[] #[]] 48 (0, 0))) := ⟨B3, hpo, nY, nc, hYV, hcV, hyV⟩
    have HRd : Hid _ := hRd
    clear hr hk hyb hjb nY nc hpo hcv hyV hjV hcV hYV hch hfa ec q3 q0 hsee r1 r2 hown1 hbel0 hZ hz hO hZ3 hO3 hB3 B3 hRd hsub hDl hrec hsz hst
    unfold maxLen at q2
    generalize ((x.1 + (x.2.length + 9) : Nat) : Int) = q at *
    gi_wp2_with fail
    refine ⟨rfl, RoundIn.mono (F := Fence.wide.inRound l') HRd.out ?_⟩
    clear hy hr3 hm2
    rintro e W3 ⟨hk3, hend⟩
    have HE : Hid (Kept V W3 (fun k => ¬ D k) ∧ W3.heap[W.heap.size]? = some (.cells #[.func (.yield l) #[] #[]] 48 (0, 0)) ∧ c < W3.heap.size ∧ flat (po ++ [(x.1, x.2, V.heap.size)]) = pre ++ [x]) := by
      refine ⟨(kept_below HB.out.1 _).trans hk3 (fun k _ h hD => h (.inl hD)), hk3.heap (by rw [HB.out.1.block _ HB.out.2.2.2.2.1]; exact HB.out.2.2.2.2.2.2) (fun h => h (.inr (.inr rfl))), ?_, by rw [flat_snoc, HB.out.2.1]⟩
      have h1 := HB.out.1.size
      have h2 := hk3.size
      have h3 := HB.out.2.2.2.2.2.1
      omega
    clear hk3
    rcases hend with ⟨rfl, hJ3⟩ | ⟨rfl, hJx3⟩
    · have H3 : Hid _ := hJ3
      clear hJ3
      gi_wp2
      exact ⟨HE.out.1, po ++ [(x.1, x.2, V.heap.size)], HE.out.2.2.2, H3.out, HE.out.2.1, HB.out.2.2.1, HB.out.2.2.2.1, HE.out.2.2.1⟩
    · have H3 : Hid _ := hJx3
      clear hJx3
      gi_wp2
      exact ⟨HE.out.1, rfl, po ++ [(x.1, x.2, V.heap.size)], HE.out.2.2.2, H3.out, HE.out.2.1, HB.out.2.2.1, HB.out.2.2.2.1, HE.out.2.2.1⟩
  case done =>
    rintro d D ys V hd hDd hS ⟨po, hpo, hjb, hyb, nY, nc, hcv⟩ hK
    have hj2 : J (fun k => D k ∨ k = c ∨ k = W.heap.size) po (V.putObj d (.deferred none)) := HJ.out.1 _ _ _ _ _ hjb ((kept_putObj V d _).mono (fun k _ e => by subst e; exact ⟨.inl hDd, fun h => h.elim (fun e => by omega) (fun h => by have := hul _ h; omega)⟩)) (fun k h => .inl h)
    have HD : Hid (V.heap[d]? = some (.deferred (some [])) ∧ J (fun k => D k ∨ k = c ∨ k = W.heap.size) po (V.putObj d (.deferred none)) ∧ Bodies xs (bods (flat po))) := ⟨hK, hj2, by rw [hpo]; exact hS⟩
    clear hjb hyb nY nc hcv hK hj2 hst
    gi_wp2
    refine ⟨by simp, .inl ⟨_, _, rfl, run_takeDeferred HD.out.1, ?_⟩⟩
    exact ⟨_, results_none rfl _ _ _, ⟨_, rfl⟩, _, .inl ⟨po, HD.out.2.2, HD.out.2.1⟩⟩
  case stop =>
    rintro d D cd pre V hd hDd hSp ⟨rfl, po, hpo, hjb, hyb, nY, nc, hcv⟩ hK
    have hj2 : Jx (fun k => D k ∨ k = c ∨ k = W.heap.size) po (V.putObj d (.deferred none)) := HJ.out.2 _ _ _ _ _ hjb ((kept_putObj V d _).mono (fun k _ e => by subst e; exact ⟨.inl hDd, fun h => h.elim (fun e => by omega) (fun h => by have := hul _ h; omega)⟩)) (fun k h => .inl h)
    have HD : Hid (V.heap[d]? = some (.deferred (some [])) ∧ Jx (fun k => D k ∨ k = c ∨ k = W.heap.size) po (V.putObj d (.deferred none)) ∧ Chain xs 0 (bods (flat po))) := ⟨hK, hj2, by rw [hpo]; exact hSp⟩
    clear hjb hyb nY nc hcv hK hj2 hst
    gi_wp2
    refine ⟨by simp, .inl ⟨_, _, rfl, run_takeDeferred HD.out.1, ?_⟩⟩
    exact ⟨_, results_none rfl _ _ _, ⟨_, rfl⟩, _, .inr ⟨po, HD.out.2.2, HD.out.2.1⟩⟩

end Go.Proofs.Ytabkjcgcnimoaaa
