/- What 'above' of the statements answers: the paths above a path, gathered. -/
import Derived.Test.YtgaemldkpfbomaaPaZ
import Derived.ArgAppend
import Derived.Deep.AppendLies
import Derived.Maps.AppendAt
namespace Go.Proofs.Ytgaemldkpfbomaa
open Go.RowKit Go.Shelf
set_option maxRecDepth 8000
attribute [local go_sem] Oper.semAt_some

theorem abv_len (p : Bs) (hl : p.length ≤ 4294967296) : (abv p).length ≤ 64 := by
  unfold abv
  split
  · simp
  · rename_i h
    have hp : isPb p = true := by
      cases e : isPb p with
      | true => rfl
      | false => exact absurd (.inr e) h
    have h64 : p.length ≤ 64 := by
      rcases (isPb_iff hl).1 hp with e | ⟨r, _, h64, _⟩
      · rw [e]; decide
      · exact h64
    have hs : ∀ (l : Bs) (k : Nat), (slots l k).length ≤ l.length := by
      intro l
      induction l with
      | nil => intro k; simp [slots]
      | cons b r ih =>
        intro k
        have := ih (k + 1)
        simp only [slots]
        split
        · simp; omega
        · simp; omega
    rw [List.length_map]
    have := hs p 0
    omega

theorem Try.infoStrT : (Try.prog.info? 9).map (fun i => (i.zero, i.size, i.bytes)) = some (some (.string ⟨#[]⟩), 1, 16) := by kernel_rfl

theorem row_kept {w w' : World} {S : Blocks} {base n : Nat} {t : TypeId} {v : Value} {xs : List Value} (h : w.ownsRow base t 1 v n xs) (hk : Kept w w' S) (hn : ∀ k, v.ownBlock = some k → ¬ S k) : w'.ownsRow base t 1 v n xs := by
  refine ⟨h.1, ?_⟩
  rcases h.2 with h | ⟨g, cap, cur, rfl, h1, h2, h3⟩
  · exact .inl h
  · exact .inr ⟨g, cap, cur, rfl, h1, hk.heap h2 (hn g rfl), h3⟩

theorem row_at {w : World} {base n k : Nat} {t : TypeId} {v : Value} {xs : List Value} (h : w.ownsRow base t 1 v n xs) (hk : v.ownBlock = some k) : (∃ cs, w.heap[k]? = some (.cells cs t (0, 0))) ∧ base ≤ k ∧ k < w.heap.size := by
  rcases h.2 with ⟨rfl, _⟩ | ⟨g, cap, cur, rfl, hb, hr, _⟩
  · simp [Value.ownBlock] at hk
  · simp [Value.ownBlock] at hk
    subst hk
    exact ⟨⟨_, hr⟩, hb, lt_of_block hr⟩

theorem row_shape {w : World} {base n : Nat} {t : TypeId} {v : Value} {xs : List Value} (h : w.ownsRow base t 1 v n xs) : ∃ ao c, v = .slice ao n c := by
  rcases h.2 with ⟨rfl, h0⟩ | ⟨g, cap, cur, rfl, _⟩
  · exact ⟨none, 0, by rw [h0]⟩
  · exact ⟨_, _, rfl⟩

theorem ne_ty {w : World} {x y : Nat} {c1 c2 : Array Value} {T1 T2 : TypeId} {f1 f2 : Nat × Nat} (h1 : w.heap[x]? = some (.cells c1 T1 f1)) (h2 : w.heap[y]? = some (.cells c2 T2 f2)) (h : T1 ≠ T2) : x ≠ y := by
  intro e
  subst e
  rw [h1] at h2
  simp at h2
  exact h h2.2.1

theorem kept_grownT {V w1 : World} {o : Obj} {row : Option Nat} (h : (V.alloc o).grownBy w1 row) : Kept V w1 (fun k => row = some k) :=
  ((Kept.refl V _).alloc o).grown h (fun _ _ e => e)

/-- Block B holds the list of the texts that have come; none of its blocks is the iterator's. -/
structure GathT (n₀ B : Nat) (D : Blocks) (pre : List Bs) (v : Value) (V : World) : Prop where
  box : V.heap[B]? = some (.cells #[v] 28 (0, 0))
  row : V.ownsRow n₀ 9 1 v pre.length (pre.map bytesV)
  dB : ¬ D B
  dv : ∀ k, v.ownBlock = some k → ¬ D k
  dl : ∀ k, D k → k < V.heap.size

theorem GathT.stays {n₀ B : Nat} {D0 D D' : Blocks} {pre : List Bs} {v : Value} {V V' : World} (h : GathT n₀ B D pre v V) (hk : Kept V V' (fun k => D k ∧ ¬ D0 k)) (hD : ∀ k, D' k → D k ∨ (V.heap.size ≤ k ∧ k < V'.heap.size)) : GathT n₀ B D' pre v V' := by
  have far : ∀ k, k < V.heap.size → ¬ D k → ¬ D' k := fun k hl hn h' => by
    rcases hD k h' with h' | h'
    · exact hn h'
    · omega
  exact {
    box := hk.heap h.box (fun hd => h.dB hd.1)
    row := row_kept h.row hk (fun k e hd => h.dv k e hd.1)
    dB := far _ (lt_of_block h.box) h.dB
    dv := fun k e => far k (row_at h.row e).2.2 (h.dv k e)
    dl := fun k hd => by
      have hs := hk.size
      rcases hD k hd with h' | h'
      · have := h.dl k h'; omega
      · exact h'.2 }

set_option maxHeartbeats 400000 in
/-- One round: a text more. -/
theorem gathT_round {n₀ B : Nat} {D : Blocks} {pre : List Bs} {v : Value} {V : World} (G : GathT n₀ B D pre v V) (x : Bs) (hlen : pre.length ≤ 4000000000) (hn₀ : n₀ ≤ V.heap.size) (hB : n₀ ≤ B) :
    ∃ g1 c1 w1,
      (Builtin.append_ #[28, 28] 28 #[v, .slice (some ⟨V.heap.size, 0, none⟩) 1 1]).run Try.prog (V.alloc (.cells #[bytesV x] 9)) = .ok (.slice (some ⟨g1, 0, none⟩) (pre.length + 1) c1) w1 ∧
      w1.cell? ⟨B, 0, none⟩ = some v ∧ w1.frozen? ⟨B, 0, none⟩ = false ∧
      GathT n₀ B D (pre ++ [x]) (.slice (some ⟨g1, 0, none⟩) (pre.length + 1) c1) (w1.setCell ⟨B, 0, none⟩ (.slice (some ⟨g1, 0, none⟩) (pre.length + 1) c1)) ∧
      Kept V (w1.setCell ⟨B, 0, none⟩ (.slice (some ⟨g1, 0, none⟩) (pre.length + 1) c1)) (fun k => k = B ∨ v.ownBlock = some k) := by
  obtain ⟨i0, hi, hz0, hz1, hz2⟩ := info_parts Try.infoStrT
  obtain ⟨g1, c1, w1, hr1, ow1, gr1, li1, lt1⟩ := run_append_lies (P := Try.prog) (V.alloc (.cells #[bytesV x] 9)) 28 28 n₀ 9 i0 (.string ⟨#[]⟩) 1 16 Try.underlying28 hi hz0 hz1 hz2 rfl (by decide) v pre.length (pre.map bytesV) (G.row.alloc _) ⟨V.heap.size, 0, none⟩ 1 1 [bytesV x] rfl (cell_one_new _ _ _) (by simp [Value.oneCell', bytesV]) (by decide) (by unfold maxLen; omega) (by omega) (by simp; omega) (V.heap.size + 1) (by simp)
  have k1 : Kept V w1 (fun k => v.ownBlock = some k) := kept_grownT gr1
  have nvB : v.ownBlock ≠ some B := fun e => by
    obtain ⟨⟨cs, h1⟩, _⟩ := row_at G.row e
    exact ne_ty h1 G.box (by decide) rfl
  have hb1 : w1.heap[B]? = some (.cells #[v] 28 (0, 0)) := k1.heap G.box nvB
  obtain ⟨v', hv'⟩ : ∃ v', v' = Value.slice (some ⟨g1, 0, none⟩) (pre.length + 1) c1 := ⟨_, rfl⟩
  have k2 : Kept w1 (w1.setCell ⟨B, 0, none⟩ v') (· = B) := (Kept.refl w1 _).setCell ⟨B, 0, none⟩ _ (fun _ => rfl)
  have g1B : g1 ≠ B := fun e => by
    obtain ⟨⟨cs, h1⟩, _⟩ := row_at ow1 (rfl : (Value.slice (some ⟨g1, 0, none⟩) (pre.length + 1) c1).ownBlock = some g1)
    exact ne_ty h1 hb1 (by decide) e
  have ow2 : (w1.setCell ⟨B, 0, none⟩ v').ownsRow n₀ 9 1 v' (pre.length + 1) (pre.map bytesV ++ [bytesV x]) := by
    rw [hv'] at k2 ⊢
    exact row_kept ow1 k2 (fun k e e' => by subst e'; simp [Value.ownBlock] at e; exact g1B e)
  have kall : Kept V (w1.setCell ⟨B, 0, none⟩ v') (fun k => k = B ∨ v.ownBlock = some k) := (k1.mono (fun k _ e => .inr e)).trans k2 (fun k _ e => .inl e)
  refine ⟨g1, c1, w1, hr1, cell_of_row w1 B 0 _ _ _ hb1, frozen_of_row w1 B 0 _ _ hb1, ?_, ?_⟩
  · rw [← hv']
    exact {
      box := Boxed.set _ hb1
      row := by
        have e : (pre ++ [x]).length = pre.length + 1 := by simp
        rw [e, List.map_append]
        exact ow2
      dB := G.dB
      dv := fun k e => by
        rw [hv'] at e
        simp [Value.ownBlock] at e
        subst e
        rcases li1 with h | h
        · exact G.dv g1 h
        · intro hd; have := G.dl g1 hd; omega
      dl := fun k hd => by have := G.dl k hd; have := kall.size; omega }
  · rw [← hv']
    exact kall

set_option maxHeartbeats 1000000 in
theorem aboveL_any (s : ByteArray) (w : World) (hl : s.size ≤ 4294967296) :
    Calls Try.prog 14 #[.string s, .int .i64 200] w fun e w' => ∃ v, e = .returned v ∧ w'.ownsRow w.heap.size 9 1 v (abv s.data.toList).length ((abv s.data.toList).map bytesV) ∧ Below w.heap.size w w' := by
  have hnil : ∀ (g : Nat) (cs : Array Value) (w : World), (binOp BinOp.eql 33 (.func (.func g) #[] cs) .nilFunc).run Try.prog w = .ok (.bool false) w := fun _ _ _ => by kernel_rfl
  refine (callsIn_wide (n := 0)).1 ?_
  refine callsIn_of_wp_marks Try.func14 rfl trivial ?_ rfl
  simp only [Try.ntmps14, List.size_toArray, List.length_cons, List.length_nil, Nat.reduceAdd, Nat.reduceSub, Array.replicate_succ, Array.replicate_zero, List.push_toArray, List.append_toArray, List.nil_append, List.cons_append]
  gi_wp2_with fail
  refine ⟨trivial, rfl, (callsIn_wide.2 (above_any _ _)).mono ?_⟩
  rintro e w1 ⟨rfl, rfl⟩
  gi_wp2_with fail
  obtain ⟨W0, hW0⟩ : ∃ W0, ((w.alloc (.cells #[.int .i64 200] 3)).alloc (.cells #[.slice none 0 0] 28)).alloc (.cells #[.string s] 9) = W0 := ⟨_, rfl⟩
  have b0 : W0.heap[w.heap.size]? = some (.cells #[.int .i64 200] 3 (0, 0)) := by
    rw [← hW0, Below.heap_alloc _ _ _ (by simp; omega), Below.heap_alloc _ _ _ (by simp)]; exact heap_alloc_new _ _
  have b1 : W0.heap[w.heap.size + 1]? = some (.cells #[.slice none 0 0] 28 (0, 0)) := by
    rw [← hW0, Below.heap_alloc _ _ _ (by simp)]
    have := heap_alloc_new (w.alloc (.cells #[.int .i64 200] 3)) (.cells #[.slice none 0 0] 28); rwa [World.size_alloc] at this
  have b2 : W0.heap[w.heap.size + 1 + 1]? = some (.cells #[.string s] 9 (0, 0)) := by
    rw [← hW0]
    have := heap_alloc_new ((w.alloc (.cells #[.int .i64 200] 3)).alloc (.cells #[.slice none 0 0] 28)) (.cells #[.string s] 9); rwa [World.size_alloc, World.size_alloc] at this
  have B0 : Below w.heap.size w W0 := by rw [← hW0]; exact (((Below.refl _ w).alloc (Nat.le_refl _) _).alloc (by simp) _).alloc (by simp; omega) _
  have z0 : W0.heap.size = w.heap.size + 3 := by rw [← hW0]; simp
  have HLn : Hid ((abv s.data.toList).length ≤ 64) := abv_len _ (by rw [← size_list]; exact hl)
  rw [hW0]
  clear hW0 hnil
  refine range_R (gf := 30) (lb := #[.pointer (some ⟨w.heap.size + 1 + 1, 0, none⟩)]) rfl (enters_of Try.func30 (by kernel_rfl) rfl)
    (above1_seq (w.heap.size + 1 + 1) s W0 b2 hl) (fun _ => rfl)
    (fun k hk => by omega)
    (fun pre x Wb W l r o h hl => h)
    (fun D pre W => W.heap[w.heap.size]? = some (.cells #[.int .i64 200] 3 (0, 0)) ∧ ¬ D w.heap.size ∧ Mine w.heap.size w (fun k => k = w.heap.size + 1 + 1) D W ∧ ∃ v, GathT w.heap.size (w.heap.size + 1) D pre v W)
    (fun _ _ _ _ => False)
    (fun D D' s W W' h hk hD => ⟨hk.heap h.1 (fun hd => h.2.1 hd.1), keep_new h.1 h.2.1 hD, h.2.2.1.stays hk hD, h.2.2.2.choose, h.2.2.2.choose_spec.stays hk hD⟩)
    (fun _ _ _ _ _ _ h _ _ => h)
    ⟨b0, fun h => by omega, ⟨Nat.le_refl _, B0, fun k hk hn => absurd hk hn⟩, .slice none 0 0, { box := b1, row := World.ownsRow_nil _ _ _ _, dB := fun h => by omega, dv := fun k e => by simp [Value.ownBlock] at e, dl := fun k h => by omega }⟩
    (fun x => { tmps := #[.string s, .int .i64 200, undef, .pointer (some ⟨w.heap.size, 0, none⟩), .slice none 0 0, .pointer (some ⟨w.heap.size + 1, 0, none⟩), .func (.func 30) #[] #[.pointer (some ⟨w.heap.size + 1 + 1, 0, none⟩)], bytesV x, .string s, .func (.func 30) #[] #[.pointer (some ⟨w.heap.size + 1 + 1, 0, none⟩)], .func (.func 30) #[] #[.pointer (some ⟨w.heap.size + 1 + 1, 0, none⟩)], .bool false, undef, .func (.func 30) #[] #[.pointer (some ⟨w.heap.size + 1 + 1, 0, none⟩)], bytesV x, undef, undef, undef, undef, undef, undef, undef, undef, undef], defers := [] }) ?assign ?body ?done ?stop
  case assign =>
    intro l x W K hK
    simp only [abvEnc]
    gi_wp2
    exact hK
  case body =>
    rintro l D pre x Wb W hl' hrec hDl hsub ⟨hb0, nD0, hm, v, hG⟩ hk ⟨t, hst⟩
    have h0 : W.heap[w.heap.size]? = some (.cells #[.int .i64 200] 3 (0, 0)) := hk.heap hb0 (fun hd => nD0 hd.1)
    have hm2 := hm.stays hk (fun k hk' => .inl hk')
    have hG2 := hG.stays hk (fun k hk' => .inl hk')
    have hpl : pre.length ≤ 64 := by
      have := HLn.out
      rw [hst] at this
      simp at this
      omega
    obtain ⟨g1, c1, w1, e1, q1, q2, G5, K5⟩ := gathT_round hG2 x (by omega) hm2.2.1.size (by omega)
    obtain ⟨ao, cp, rfl⟩ := row_shape hG2.row
    have hc0 : W.cell? ⟨w.heap.size, 0, none⟩ = some (.int .i64 200) := cell_of_row W w.heap.size 0 _ _ _ h0
    have hc1 : W.cell? ⟨w.heap.size + 1, 0, none⟩ = some (.slice ao pre.length cp) := cell_of_row W (w.heap.size + 1) 0 _ _ _ hG2.box
    have HS : Hid (Kept W (w1.setCell ⟨w.heap.size + 1, 0, none⟩ (.slice (some ⟨g1, 0, none⟩) (pre.length + 1) c1)) (fun k => ¬ D k) ∧ (w1.setCell ⟨w.heap.size + 1, 0, none⟩ (.slice (some ⟨g1, 0, none⟩) (pre.length + 1) c1)).heap[w.heap.size]? = some (.cells #[.int .i64 200] 3 (0, 0)) ∧ ¬ D w.heap.size ∧ Mine w.heap.size w (fun k => k = w.heap.size + 1 + 1) D (w1.setCell ⟨w.heap.size + 1, 0, none⟩ (.slice (some ⟨g1, 0, none⟩) (pre.length + 1) c1)) ∧ ∃ v, GathT w.heap.size (w.heap.size + 1) D (pre ++ [x]) v (w1.setCell ⟨w.heap.size + 1, 0, none⟩ (.slice (some ⟨g1, 0, none⟩) (pre.length + 1) c1))) := by
      refine ⟨K5.mono (fun k _ h => ?_), K5.heap h0 (fun h => ?_), nD0, ⟨hm2.1, hm2.2.1.trans (K5.below hm2.2.1.size (fun k h => ?_)), hm2.2.2⟩, _, G5⟩
      · rcases h with rfl | h
        · exact hG2.dB
        · exact hG2.dv k h
      · rcases h with h | h
        · omega
        · obtain ⟨⟨cs, h1⟩, _⟩ := row_at hG2.row h
          exact ne_ty h1 h0 (by decide) rfl
      · rcases h with rfl | h
        · omega
        · exact (row_at hG2.row h).2.1
    have E1 : Hid _ := e1
    clear e1 G5 K5 hG hG2 hm hm2 hb0 h0 nD0 hst hk hsub hDl hrec b0 b1 b2 B0
    gi_wp2_with (gi_at_builtin; refine wpListIn_append_run rfl _ _ 28 rfl rfl rfl E1.out ?_)
    exact HS.out
  case done =>
    rintro d D ys W hd _ hS ⟨hb0, _, hm, v, hG⟩ hK
    obtain ⟨ao, cp, rfl⟩ := row_shape hG.row
    have hc1 : W.cell? ⟨w.heap.size + 1, 0, none⟩ = some (.slice ao ys.length cp) := cell_of_row W (w.heap.size + 1) 0 _ _ _ hG.box
    have kY : Kept W (W.putObj d (.deferred none)) (· = d) := kept_putObj W d _
    have HE : Hid ((W.putObj d (.deferred none)).ownsRow w.heap.size 9 1 (.slice ao ys.length cp) (abv s.data.toList).length ((abv s.data.toList).map bytesV) ∧ Below w.heap.size w (W.putObj d (.deferred none)) ∧ W.heap[d]? = some (.deferred (some []))) := by
      refine ⟨?_, hm.2.1.trans (kY.below hm.2.1.size (fun k e => by subst e; omega)), hK⟩
      rw [← hS]
      refine row_kept hG.row kY (fun k e e' => ?_)
      obtain ⟨⟨cs, h1⟩, _⟩ := row_at hG.row e
      subst e'
      rw [h1] at hK
      cases hK
    clear hb0 hm hG hS hK kY b0 b1 b2 B0
    gi_wp2
    refine ⟨by simp, .inl ⟨_, _, rfl, run_takeDeferred HE.out.2.2, ?_⟩⟩
    refine ⟨.slice ao ys.length cp, ?_, _, rfl, HE.out.1, HE.out.2.1⟩
    have hres : Try.f14.results = #[.tmp 4] := by kernel_rfl
    simp only [results, hres]
    go_simp
  case stop =>
    rintro d D c pre W _ _ _ h _
    exact h.elim

end Go.Proofs.Ytgaemldkpfbomaa
