/- A manifest's bytes: body, Write. -/
import Derived.Test.YtdbphdllibffnaaGreatMaAJ
import Derived.Test.YtdbphdllibffnaaGreatFr5J
namespace Go.Proofs.YtdbphdllibffnaaGreat
open Go.RowKit Go.Shelf
set_option maxRecDepth 8000

/-- A body under way: the manifest's box, and the Writer behind it. -/
structure BdS (w w' : World) (m : MaD) (v : Value) (xs : List Int) : Prop where
  isw : IsW w' (w.heap.size + 1) v xs
  bel : Below w.heap.size w w'
  row : w'.heap[w.heap.size]? = some (.cells #[.int .u32 m.boot, .int .u32 m.acc, .int .u32 m.cur, .int .i64 m.snap, .int .i64 m.log] 35 (0, 0))
  new : ∀ k, v.ownBlock = some k → w.heap.size + 1 < k ∧ k < w'.heap.size
  size : w.heap.size + 1 < w'.heap.size

theorem BdS.puts {w w1 w2 : World} {m : MaD} {v : Value} {xs ys : List Int} (h : BdS w w1 m v xs) (hp : Puts w1 (w.heap.size + 1) v ys w2) : ∃ v2, BdS w w2 m v2 ys := by
  obtain ⟨v2, i2, n2, k2⟩ := hp
  have hs := h.bel.size
  have hs1 := h.size
  have hs2 := k2.size
  refine ⟨v2, i2, h.bel.trans (k2.below hs (fun k e => by
    rcases e with e | e
    · omega
    · have := (h.new k e).1; omega)), k2.heap h.row (fun e => by
    rcases e with e | e
    · omega
    · have := (h.new _ e).1; omega), fun k e => ?_, by omega⟩
  rcases n2 with e1 | ⟨q, e1, e2⟩
  · rw [e1] at e
    have := h.new k e
    omega
  · rw [e] at e1
    obtain rfl : k = q := Option.some.inj e1
    exact ⟨by omega, rows_ltK i2.2 e⟩

theorem BdS.alloc {w w1 : World} {m : MaD} {v : Value} {xs : List Int} (h : BdS w w1 m v xs) (o : Obj) : BdS w (w1.alloc o) m v xs := by
  have hs := h.bel.size
  have hs1 := h.size
  refine ⟨h.isw.alloc o, Below.step h.bel (one_allocK _ _), (Below.kept (one_allocK _ _)).heap h.row (fun e => by omega), fun k e => ?_, ?_⟩
  · have := h.new k e
    rw [World.size_alloc]
    omega
  · rw [World.size_alloc]; omega

set_option maxHeartbeats 1000000 in
theorem body_m (m : MaD) (hm : m.Fits) (w : World) : Calls Tryz.prog 40 #[m.val] w fun e w' => ∃ v, e = .returned v ∧ Owns w' w.heap.size v (maB m) ∧ Below w.heap.size w w' := by
  obtain ⟨boot, acc, cur, snap, log⟩ := m
  obtain ⟨W, eW⟩ : ∃ W, W = (w.alloc (.cells #[.int .u32 boot, .int .u32 acc, .int .u32 cur, .int .i64 snap, .int .i64 log] 35)).alloc (.cells #[.slice none 0 0] 112) := ⟨_, rfl⟩
  have H0 : Hid (BdS w W ⟨boot, acc, cur, snap, log⟩ (.slice none 0 0) []) := by
    rw [eW]
    have h1 := isW_new (w.alloc (.cells #[.int .u32 boot, .int .u32 acc, .int .u32 cur, .int .i64 snap, .int .i64 log] 35))
    rw [World.size_alloc] at h1
    refine ⟨h1, Below.step (one_allocK _ _) (one_allocK _ _), (Below.kept (one_allocK _ _)).heap (heap_alloc_new w _) (fun e => by rw [World.size_alloc] at e; omega), fun k e => by simp [Value.ownBlock] at e, by rw [World.size_alloc, World.size_alloc]; omega⟩
  have HE : Hid _ := eW
  have HM : Hid _ := hm
  clear eW hm
  have hg0 := lt_of_block H0.out.isw.1
  go_enter Tryz.func40, Tryz.ntmps40
  go_upto_region 2 with fail
  rw [← HE.out]
  go_wp2_with fail
  refine (wInt8_any (w.heap.size + 1) _ [] 1 W H0.out.isw (by simp)).mono ?_
  rintro e w1 ⟨rfl, hp1⟩
  obtain ⟨v1, h1⟩ := H0.out.puts hp1
  have H1 : Hid (BdS w w1 ⟨boot, acc, cur, snap, log⟩ v1 [1]) := h1
  have c0 := cell_of_row w1 _ 0 _ _ _ h1.row
  have c1 := cell_of_row w1 _ 1 _ _ _ h1.row
  have c2 := cell_of_row w1 _ 2 _ _ _ h1.row
  have hl1 := h1.size
  simp only [List.getElem?_toArray, List.getElem?_cons_zero, List.getElem?_cons_succ] at c0 c1 c2
  have HP : Hid (Calls Tryz.prog 78 #[.func (.func 79) #[.pointer (some ⟨w.heap.size + 1, 0, none⟩)] #[], .slice (some ⟨w1.heap.size, 0, none⟩) 3 3] (w1.alloc (.cells #[.int .u32 boot, .int .u32 acc, .int .u32 cur] 33)) fun e w' => e = .returned (.tuple #[]) ∧ Hid (∃ v2, BdS w w' ⟨boot, acc, cur, snap, log⟩ v2 ([1] ++ (be4 boot ++ (be4 acc ++ (be4 cur ++ [])))))) := by
    have h2 := h1.alloc (.cells #[.int .u32 boot, .int .u32 acc, .int .u32 cur] 33)
    refine (mput32 (w.heap.size + 1) v1 [1] w1.heap.size [boot, acc, cur] _ h2.isw (fun i hi => ?_) (fun x hx => ?_) ⟨by omega, fun e => by have := (h1.new _ e).2; omega⟩ (by simp) (by simp)).mono ?_
    · have h4 := heap_alloc_new w1 (.cells #[.int .u32 boot, .int .u32 acc, .int .u32 cur] 33)
      rcases (show i = 0 ∨ i = 1 ∨ i = 2 by simp at hi; omega) with rfl | rfl | rfl
      · exact cell_of_row _ _ 0 _ _ _ h4
      · exact cell_of_row _ _ 1 _ _ _ h4
      · exact cell_of_row _ _ 2 _ _ _ h4
    · simp at hx
      have hmm := HM.out
      rcases hx with rfl | rfl | rfl
      · exact ⟨hmm.b0, hmm.b1⟩
      · exact ⟨hmm.a0, hmm.a1⟩
      · exact ⟨hmm.c0, hmm.c1⟩
    · rintro e w' ⟨rfl, hp⟩
      exact ⟨rfl, h2.puts hp⟩
  clear h1 hp1
  go_wp2_with fail
  refine Calls.mono HP.out ?_
  rintro e w2 ⟨rfl, H2⟩
  obtain ⟨v2, h2⟩ := H2.out
  have c3 := cell_of_row w2 _ 3 _ _ _ h2.row
  have c4 := cell_of_row w2 _ 4 _ _ _ h2.row
  simp only [List.getElem?_toArray, List.getElem?_cons_zero, List.getElem?_cons_succ] at c3 c4
  have hl2 := h2.size
  have HP2 : Hid (Calls Tryz.prog 80 #[.func (.func 81) #[.pointer (some ⟨w.heap.size + 1, 0, none⟩)] #[], .slice (some ⟨w2.heap.size, 0, none⟩) 2 2] (w2.alloc (.cells #[.int .i64 snap, .int .i64 log] 2)) fun e w' => e = .returned (.tuple #[]) ∧ Hid (∃ v3, BdS w w' ⟨boot, acc, cur, snap, log⟩ v3 (maB ⟨boot, acc, cur, snap, log⟩))) := by
    have h3 := h2.alloc (.cells #[.int .i64 snap, .int .i64 log] 2)
    refine (mput64 (w.heap.size + 1) v2 _ w2.heap.size [snap, log] _ h3.isw (fun i hi => ?_) ⟨by omega, fun e => by have := (h2.new _ e).2; omega⟩ (by simp) (by simp [be4])).mono ?_
    · have h4 := heap_alloc_new w2 (.cells #[.int .i64 snap, .int .i64 log] 2)
      rcases (show i = 0 ∨ i = 1 by simp at hi; omega) with rfl | rfl
      · exact cell_of_row _ _ 0 _ _ _ h4
      · exact cell_of_row _ _ 1 _ _ _ h4
    · rintro e w' ⟨rfl, hp⟩
      obtain ⟨v3, h5⟩ := h3.puts hp
      refine ⟨rfl, v3, ?_⟩
      have e6 : ([1] ++ (be4 boot ++ (be4 acc ++ (be4 cur ++ [])))) ++ (List.map (fun n => be8 (up64 n)) [snap, log]).flatten = maB ⟨boot, acc, cur, snap, log⟩ := by simp [maB]
      rw [e6] at h5
      exact h5
  clear h2
  go_wp2_with fail
  refine Calls.mono HP2.out ?_
  rintro e w3 ⟨rfl, H3⟩
  obtain ⟨v3, h3⟩ := H3.out
  have HB : Hid _ := wBytes_any (w.heap.size + 1) v3 _ w3 h3.isw (by rw [maB_len]; omega)
  have hl3 := h3.size
  clear h3
  go_wp2_with fail
  refine Calls.mono HB.out ?_
  rintro e w4 ⟨v4, rfl, ho4, hb4⟩
  have HF : Hid (Owns w4 w.heap.size v4 (maB ⟨boot, acc, cur, snap, log⟩) ∧ Below w.heap.size w w4) := by
    obtain ⟨v3', h3⟩ := H3.out
    exact ⟨owns_mono ho4 h3.bel.size, Below.step h3.bel hb4⟩
  clear ho4 hb4
  go_wp2_with fail
  go_ret
  exact ⟨_, rfl, HF.out⟩

theorem mbyts4 (n : Int) (h0 : 0 ≤ n) (h1 : n < 4294967296) : Byts (be4 n) := by
  intro x hx
  simp only [be4, List.mem_cons, List.not_mem_nil, or_false] at hx
  rcases hx with rfl | rfl | rfl | rfl <;> omega

theorem maB_byts (m : MaD) (hm : m.Fits) : Byts (maB m) := by
  have h64 : ∀ x, Byts (be8 (up64 x)) := fun x y hy => by
    have hu : 0 ≤ up64 x ∧ up64 x < 18446744073709551616 := by unfold up64; omega
    rcases List.mem_append.1 hy with h | h
    · exact mbyts4 _ (by omega) (by omega) y h
    · exact mbyts4 _ (by omega) (by omega) y h
  intro y hy
  unfold maB at hy
  rcases List.mem_append.1 hy with h | h
  · simp at h; omega
  · rcases List.mem_append.1 h with h | h
    · exact mbyts4 _ hm.b0 hm.b1 y h
    · rcases List.mem_append.1 h with h | h
      · exact mbyts4 _ hm.a0 hm.a1 y h
      · rcases List.mem_append.1 h with h | h
        · exact mbyts4 _ hm.c0 hm.c1 y h
        · rcases List.mem_append.1 h with h | h
          · exact h64 _ y h
          · exact h64 _ y h

theorem maB_sz (m : MaD) : isSz (maB m).length = true := by rw [maB_len]; decide

/-- The bytes of a manifest. -/
abbrev maF (m : MaD) : List Int := frameL (maB m)

set_option maxHeartbeats 400000 in
theorem mwrite_yes (m : MaD) (hm : m.Fits) (hy : mayM m = true) (w : World) : Calls Tryz.prog 14 #[m.val] w fun e w' => ∃ g, e = .returned (.tuple #[.slice (some ⟨g, 0, none⟩) (maF m).length (maF m).length, .int .i64 0]) ∧ w.heap.size ≤ g ∧ Owns w' w.heap.size (.slice (some ⟨g, 0, none⟩) (maF m).length (maF m).length) (maF m) ∧ Below w.heap.size w w' := by
  obtain ⟨W, eW⟩ : ∃ W, W = w.alloc (.cells #[.int .u32 m.boot, .int .u32 m.acc, .int .u32 m.cur, .int .i64 m.snap, .int .i64 m.log] 35) := ⟨_, rfl⟩
  have hbW : Below w.heap.size w W := by rw [eW]; exact one_allocK _ _
  have hrow : W.heap[w.heap.size]? = some (.cells #[.int .u32 m.boot, .int .u32 m.acc, .int .u32 m.cur, .int .i64 m.snap, .int .i64 m.log] 35 (0, 0)) := by rw [eW]; exact heap_alloc_new w _
  have HE : Hid _ := eW
  have HX : Hid (Below w.heap.size w W ∧ W.heap[w.heap.size]? = some (.cells #[.int .u32 m.boot, .int .u32 m.acc, .int .u32 m.cur, .int .i64 m.snap, .int .i64 m.log] 35 (0, 0))) := ⟨hbW, hrow⟩
  have HM : Hid _ := mayBe_m m W
  rw [hy] at HM
  have HF : Hid _ := hm
  have hlW := lt_of_block hrow
  have c0 := cell_of_row W _ 0 _ _ _ hrow
  have c1 := cell_of_row W _ 1 _ _ _ hrow
  have c2 := cell_of_row W _ 2 _ _ _ hrow
  have c3 := cell_of_row W _ 3 _ _ _ hrow
  have c4 := cell_of_row W _ 4 _ _ _ hrow
  simp only [List.getElem?_toArray, List.getElem?_cons_zero, List.getElem?_cons_succ] at c0 c1 c2 c3 c4
  clear hbW hrow eW hy hm
  go_enter Tryz.func14, Tryz.ntmps14
  go_upto_region 1 with fail
  rw [← HE.out]
  go_wp2_with fail
  refine Calls.mono HM.out ?_
  rintro e w1 ⟨rfl, hb1⟩
  have hrow1 : w1.heap[w.heap.size]? = some (.cells #[.int .u32 m.boot, .int .u32 m.acc, .int .u32 m.cur, .int .i64 m.snap, .int .i64 m.log] 35 (0, 0)) := (Below.kept hb1).heap HX.out.2 (fun e => by omega)
  have hl1 := lt_of_block hrow1
  have d0 := cell_of_row w1 _ 0 _ _ _ hrow1
  have d1 := cell_of_row w1 _ 1 _ _ _ hrow1
  have d2 := cell_of_row w1 _ 2 _ _ _ hrow1
  have d3 := cell_of_row w1 _ 3 _ _ _ hrow1
  have d4 := cell_of_row w1 _ 4 _ _ _ hrow1
  simp only [List.getElem?_toArray, List.getElem?_cons_zero, List.getElem?_cons_succ] at d0 d1 d2 d3 d4
  have HB1 : Hid (Below w.heap.size w w1) := Below.step HX.out.1 hb1
  have HBO : Hid _ := body_m m HF.out w1
  clear hb1 hrow1 c0 c1 c2 c3 c4
  go_wp2_with fail
  refine Calls.mono HBO.out ?_
  rintro e w2 ⟨v2, rfl, ho2, hb2⟩
  have HP : Hid _ := put_ok v2 (maB m) w2 (Sees.own ho2) (maB_byts m HF.out) (maB_sz m)
  have HB2 : Hid (Below w.heap.size w w2) := Below.step HB1.out hb2
  clear ho2 hb2
  go_wp2_with fail
  refine Calls.mono HP.out ?_
  rintro e w3 ⟨g, rfl, hg, ho3, hb3⟩
  have HR : Hid (w.heap.size ≤ g ∧ Owns w3 w.heap.size (.slice (some ⟨g, 0, none⟩) (maF m).length (maF m).length) (maF m) ∧ Below w.heap.size w w3) := ⟨by have := HB2.out.size; omega, owns_mono ho3 HB2.out.size, Below.step HB2.out hb3⟩
  clear hg ho3 hb3
  go_wp2_with fail
  go_ret2
  exact ⟨g, rfl, HR.out⟩

set_option maxHeartbeats 400000 in
theorem mwrite_no (m : MaD) (hy : mayM m = false) (w : World) : Calls Tryz.prog 14 #[m.val] w fun e w' => e = .returned (.tuple #[.slice none 0 0, .int .i64 110]) ∧ Below w.heap.size w w' := by
  obtain ⟨W, eW⟩ : ∃ W, W = w.alloc (.cells #[.int .u32 m.boot, .int .u32 m.acc, .int .u32 m.cur, .int .i64 m.snap, .int .i64 m.log] 35) := ⟨_, rfl⟩
  have hbW : Below w.heap.size w W := by rw [eW]; exact one_allocK _ _
  have hrow : W.heap[w.heap.size]? = some (.cells #[.int .u32 m.boot, .int .u32 m.acc, .int .u32 m.cur, .int .i64 m.snap, .int .i64 m.log] 35 (0, 0)) := by rw [eW]; exact heap_alloc_new w _
  have HE : Hid _ := eW
  have HX : Hid _ := hbW
  have HM : Hid _ := mayBe_m m W
  rw [hy] at HM
  have hlW := lt_of_block hrow
  have c0 := cell_of_row W _ 0 _ _ _ hrow
  have c1 := cell_of_row W _ 1 _ _ _ hrow
  have c2 := cell_of_row W _ 2 _ _ _ hrow
  have c3 := cell_of_row W _ 3 _ _ _ hrow
  have c4 := cell_of_row W _ 4 _ _ _ hrow
  simp only [List.getElem?_toArray, List.getElem?_cons_zero, List.getElem?_cons_succ] at c0 c1 c2 c3 c4
  clear hbW hrow eW hy
  go_enter Tryz.func14, Tryz.ntmps14
  go_upto_region 1 with fail
  rw [← HE.out]
  go_wp2_with fail
  refine Calls.mono HM.out ?_
  rintro e w1 ⟨rfl, hb1⟩
  have HB1 : Hid (Below w.heap.size w w1) := Below.step HX.out hb1
  clear hb1
  go_wp2_with fail
  go_ret2
  exact ⟨rfl, HB1.out⟩
end Go.Proofs.YtdbphdllibffnaaGreat

/- A manifest's bytes, read: get, numbers, Read. -/
namespace Go.Proofs.YtdbphdllibffnaaGreat
open Go.RowKit Go.Shelf
set_option maxRecDepth 8000

abbrev zeroM : Value := .agg #[.int .u32 0, .int .u32 0, .int .u32 0, .int .i64 0, .int .i64 0]

/-- A row of which k cells from o on were set. -/
def cellsK (base : List Value) (o : Nat) (xs : List Value) (k : Nat) : List Value := base.take o ++ (xs.take k ++ base.drop (o + k))

theorem cellsK_zero (base : List Value) (o : Nat) (xs : List Value) : cellsK base o xs 0 = base := by
  unfold cellsK
  simp

theorem cellsK_len (base : List Value) (o : Nat) (xs : List Value) (k : Nat) (h : o + k ≤ base.length) (hk : k ≤ xs.length) : (cellsK base o xs k).length = base.length := by
  unfold cellsK
  simp
  omega

theorem cellsK_at (base : List Value) (o : Nat) (xs : List Value) (k : Nat) (hk : k ≤ xs.length) (h : o + k < base.length) : (cellsK base o xs k)[o + k]? = base[o + k]? := by
  unfold cellsK
  rw [List.getElem?_append_right (by simp; omega), List.getElem?_append_right (by simp; omega)]
  have e1 : o + k - (base.take o).length - (xs.take k).length = 0 := by simp; omega
  rw [e1, List.getElem?_drop]
  rfl

theorem cellsK_next (base : List Value) (o : Nat) (xs : List Value) (k : Nat) (hk : k < xs.length) (h : o + xs.length ≤ base.length) : (cellsK base o xs k).set (o + k) xs[k] = cellsK base o xs (k + 1) := by
  unfold cellsK
  have h1 : (base.take o).length = o := by simp; omega
  have h2 : (xs.take k).length = k := by simp; omega
  rw [List.set_append_right _ _ (by omega), h1, List.set_append_right _ _ (by omega), h2, show o + k - o - k = 0 by omega, List.drop_eq_getElem_cons (by omega), List.take_succ_eq_append_getElem hk, List.append_assoc]
  rfl

/-- A Reader that went on, a row that was filled. -/
structure GtK (w w' : World) (g q : Nat) (v : Value) (rest : List Int) (cs : List Value) : Prop where
  rd : ∃ v', IsR w' g v' rest 0 ∧ ∀ k, v'.ownBlock = some k → v.ownBlock = some k
  row : w'.heap[q]? = some (.cells cs.toArray 35 (0, 0))
  kept : Kept w w' (fun k => k = g ∨ k = q)

set_option maxHeartbeats 1000000 in
theorem mget32 (g q b o : Nat) (v : Value) (l : List Int) (rest : List Int) (base : List Value) (w : World) (h : IsR w g v ((l.map be4).flatten ++ rest) 0) (hby : Byts ((l.map be4).flatten ++ rest)) (hq : w.heap[q]? = some (.cells base.toArray 35 (0, 0))) (hc : ∀ i, i < l.length → w.cell? ⟨b, i, none⟩ = some (.pointer (some ⟨q, o + i, none⟩))) (hbg : b ≠ g ∧ b ≠ q ∧ g ≠ q) (hv : ∀ k, v.ownBlock = some k → k ≠ q) (hl : l.length ≤ 10) (hln : o + l.length ≤ base.length) (hbi : ∀ i, o ≤ i → i < o + l.length → ∃ n, base[i]? = some (.int .u32 n)) :
    Calls Tryz.prog 86 #[.func (.func 87) #[.pointer (some ⟨g, 0, none⟩)] #[], .slice (some ⟨b, 0, none⟩) l.length l.length] w fun e w' => e = .returned (.tuple #[]) ∧ GtK w w' g q v rest (cellsK base o (l.map (Value.int .u32)) l.length) := by
  have H : Hid ((∀ i, i < l.length → w.cell? ⟨b, i, none⟩ = some (.pointer (some ⟨q, o + i, none⟩))) ∧ Byts ((l.map be4).flatten ++ rest)) := ⟨hc, hby⟩
  have H0 : Hid (GtK w w g q v (((l.drop 0).map be4).flatten ++ rest) (cellsK base o (l.map (Value.int .u32)) 0)) := by
    refine ⟨⟨v, h, fun _ e => e⟩, ?_, Kept.refl _ _⟩
    rw [cellsK_zero]
    exact hq
  have HBI : Hid _ := hbi
  have HV : Hid _ := hv
  clear h hc hby hq hbi hv
  go_enter Tryz.func86, Tryz.ntmps86
  go_wp2_with fail
  go_loopw [5, 8] (fun _ i wr => ∃ k : Nat, k ≤ l.length ∧ i = .int .i64 k ∧ Hid (GtK w wr g q v (((l.drop k).map be4).flatten ++ rest) (cellsK base o (l.map (Value.int .u32)) k))) (fun _ i _ => l.length - (intOf i).toNat)
  case atStart => exact ⟨0, Nat.zero_le _, rfl, H0⟩
  case round =>
    obtain ⟨k, hk, rfl, HP⟩ := hrel
    clear H0
    by_cases hlt : k < l.length
    · obtain ⟨⟨vk, hR, hvk⟩, hrow, hK⟩ := HP.out
      have hck : wr.cell? ⟨b, k, none⟩ = some (.pointer (some ⟨q, o + k, none⟩)) := hK.cell (H.out.1 k hlt) (fun e => by
        rcases e with e | e
        · exact hbg.1 e
        · exact hbg.2.1 e)
      have hlb := World.block_lt_of_cell? wr _ hck
      rw [List.drop_eq_getElem_cons hlt, List.map_cons, List.flatten_cons, List.append_assoc] at hR
      have hbyk : Byts (be4 l[k] ++ (((l.drop (k + 1)).map be4).flatten ++ rest)) := by
        have h1 := H.out.2
        have h2 : (l.map be4).flatten = ((l.take k).map be4).flatten ++ ((l.drop k).map be4).flatten := by rw [← List.flatten_append, ← List.map_append, List.take_append_drop]
        rw [h2, List.append_assoc, List.drop_eq_getElem_cons hlt, List.map_cons, List.flatten_cons, List.append_assoc] at h1
        exact fun x hx => h1 x (List.mem_append.2 (.inr hx))
      have HG : Hid (Calls Tryz.prog 87 #[.pointer (some ⟨g, 0, none⟩)] wr fun e w' => e = .returned (.int .u32 l[k]) ∧ Hid (GtK w (w'.setCell ⟨q, o + k, none⟩ (.int .u32 l[k])) g q v (((l.drop (k + 1)).map be4).flatten ++ rest) (cellsK base o (l.map (Value.int .u32)) (k + 1))) ∧ (∃ n, w'.cell? ⟨q, o + k, none⟩ = some (.int .u32 n)) ∧ w'.frozen? ⟨q, o + k, none⟩ = false ∧ q < w'.heap.size) := by
        refine (gU32 l[k] hR hbyk).mono ?_
        rintro e w2 ⟨rfl, hr2⟩
        refine ⟨rfl, ?_⟩
        obtain ⟨v2, i2, s2, k2⟩ := hr2
        have hrow2 : w2.heap[q]? = some (.cells (cellsK base o (l.map (Value.int .u32)) k).toArray 35 (0, 0)) := k2.heap hrow (fun e => hbg.2.2 e.symm)
        have hln2 : (cellsK base o (l.map (Value.int .u32)) k).length = base.length := cellsK_len _ _ _ _ (by omega) (by simpa using hk)
        refine ⟨⟨⟨v2, ?_, ?_⟩, ?_, ?_⟩, ?_, frozen_of_row w2 q _ _ _ hrow2, lt_of_block hrow2⟩
        · exact i2.kept (Kept.setCell (Kept.refl _ (fun k => k = q)) ⟨q, o + k, none⟩ _ (fun _ => rfl)) hbg.2.2 (fun j e => HV.out j (hvk j (s2 j e)))
        · exact fun j e => hvk j (s2 j e)
        · have h3 := heap_setK (i := o + k) (.int .u32 l[k]) hrow2
          have h4 := cellsK_next base o (l.map (Value.int .u32)) k (by simpa using hlt) (by rw [List.length_map]; omega)
          rw [List.getElem_map] at h4
          rw [h3, List.setIfInBounds_toArray, h4]
        · exact (hK.trans' k2 (fun j _ e => e) (fun j _ e => .inl e)).trans' (Kept.setCell (Kept.refl _ (fun k => k = q)) ⟨q, o + k, none⟩ _ (fun _ => rfl)) (fun j _ e => e) (fun j _ e => .inr e)
        · obtain ⟨n, hn⟩ := HBI.out (o + k) (by omega) (by omega)
          refine ⟨n, ?_⟩
          rw [cell_of_row w2 q (o + k) _ _ _ hrow2, List.getElem?_toArray, cellsK_at _ _ _ _ (by simpa using hk) (by omega)]
          exact hn
      clear hR hvk hrow hK HP hbyk
      generalize l[k] = x at *
      go_wp2_with fail
      refine Calls.mono HG.out ?_
      rintro e w2 ⟨rfl, HP2, ⟨n2, c2⟩, f2, l2⟩
      go_wp2_with fail
      go_roundw
      case rel => exact ⟨k + 1, by omega, by go_num, HP2⟩
      case measure => simp [intOf]; omega
    · obtain rfl : k = l.length := by omega
      rw [List.drop_of_length_le (Nat.le_refl _)] at HP
      go_wp2_with fail
      go_end0
      exact ⟨rfl, HP.out⟩

set_option maxHeartbeats 1000000 in
theorem mget64 (g q b o : Nat) (v : Value) (l : List Int) (rest : List Int) (base : List Value) (w : World) (h : IsR w g v ((l.map (fun n => be8 (up64 n))).flatten ++ rest) 0) (hby : Byts ((l.map (fun n => be8 (up64 n))).flatten ++ rest)) (hq : w.heap[q]? = some (.cells base.toArray 35 (0, 0))) (hc : ∀ i, i < l.length → w.cell? ⟨b, i, none⟩ = some (.pointer (some ⟨q, o + i, none⟩))) (hbd : ∀ x ∈ l, -9223372036854775808 ≤ x ∧ x ≤ 9223372036854775807) (hbg : b ≠ g ∧ b ≠ q ∧ g ≠ q) (hv : ∀ k, v.ownBlock = some k → k ≠ q) (hl : l.length ≤ 10) (hln : o + l.length ≤ base.length) (hbi : ∀ i, o ≤ i → i < o + l.length → ∃ n, base[i]? = some (.int .i64 n)) :
    Calls Tryz.prog 88 #[.func (.func 89) #[.pointer (some ⟨g, 0, none⟩)] #[], .slice (some ⟨b, 0, none⟩) l.length l.length] w fun e w' => e = .returned (.tuple #[]) ∧ GtK w w' g q v rest (cellsK base o (l.map (Value.int .i64)) l.length) := by
  have H : Hid ((∀ i, i < l.length → w.cell? ⟨b, i, none⟩ = some (.pointer (some ⟨q, o + i, none⟩))) ∧ Byts ((l.map (fun n => be8 (up64 n))).flatten ++ rest)) := ⟨hc, hby⟩
  have H0 : Hid (GtK w w g q v (((l.drop 0).map (fun n => be8 (up64 n))).flatten ++ rest) (cellsK base o (l.map (Value.int .i64)) 0)) := by
    refine ⟨⟨v, h, fun _ e => e⟩, ?_, Kept.refl _ _⟩
    rw [cellsK_zero]
    exact hq
  have HBI : Hid _ := hbi
  have HV : Hid _ := hv
  clear h hc hby hq hbi hv
  go_enter Tryz.func88, Tryz.ntmps88
  go_wp2_with fail
  go_loopw [5, 8] (fun _ i wr => ∃ k : Nat, k ≤ l.length ∧ i = .int .i64 k ∧ Hid (GtK w wr g q v (((l.drop k).map (fun n => be8 (up64 n))).flatten ++ rest) (cellsK base o (l.map (Value.int .i64)) k))) (fun _ i _ => l.length - (intOf i).toNat)
  case atStart => exact ⟨0, Nat.zero_le _, rfl, H0⟩
  case round =>
    obtain ⟨k, hk, rfl, HP⟩ := hrel
    clear H0
    by_cases hlt : k < l.length
    · obtain ⟨⟨vk, hR, hvk⟩, hrow, hK⟩ := HP.out
      have hck : wr.cell? ⟨b, k, none⟩ = some (.pointer (some ⟨q, o + k, none⟩)) := hK.cell (H.out.1 k hlt) (fun e => by
        rcases e with e | e
        · exact hbg.1 e
        · exact hbg.2.1 e)
      have hlb := World.block_lt_of_cell? wr _ hck
      rw [List.drop_eq_getElem_cons hlt, List.map_cons, List.flatten_cons, List.append_assoc] at hR
      have hbyk : Byts ((fun n => be8 (up64 n)) l[k] ++ (((l.drop (k + 1)).map (fun n => be8 (up64 n))).flatten ++ rest)) := by
        have h1 := H.out.2
        have h2 : (l.map (fun n => be8 (up64 n))).flatten = ((l.take k).map (fun n => be8 (up64 n))).flatten ++ ((l.drop k).map (fun n => be8 (up64 n))).flatten := by rw [← List.flatten_append, ← List.map_append, List.take_append_drop]
        rw [h2, List.append_assoc, List.drop_eq_getElem_cons hlt, List.map_cons, List.flatten_cons, List.append_assoc] at h1
        exact fun x hx => h1 x (List.mem_append.2 (.inr hx))
      have hxb := hbd _ (List.getElem_mem hlt)
      have HG : Hid (Calls Tryz.prog 89 #[.pointer (some ⟨g, 0, none⟩)] wr fun e w' => e = .returned (.int .i64 l[k]) ∧ Hid (GtK w (w'.setCell ⟨q, o + k, none⟩ (.int .i64 l[k])) g q v (((l.drop (k + 1)).map (fun n => be8 (up64 n))).flatten ++ rest) (cellsK base o (l.map (Value.int .i64)) (k + 1))) ∧ (∃ n, w'.cell? ⟨q, o + k, none⟩ = some (.int .i64 n)) ∧ w'.frozen? ⟨q, o + k, none⟩ = false ∧ q < w'.heap.size) := by
        refine (gI64 l[k] hR hbyk hxb.1 hxb.2).mono ?_
        rintro e w2 ⟨rfl, hr2⟩
        refine ⟨rfl, ?_⟩
        obtain ⟨v2, i2, s2, k2⟩ := hr2
        have hrow2 : w2.heap[q]? = some (.cells (cellsK base o (l.map (Value.int .i64)) k).toArray 35 (0, 0)) := k2.heap hrow (fun e => hbg.2.2 e.symm)
        have hln2 : (cellsK base o (l.map (Value.int .i64)) k).length = base.length := cellsK_len _ _ _ _ (by omega) (by simpa using hk)
        refine ⟨⟨⟨v2, ?_, ?_⟩, ?_, ?_⟩, ?_, frozen_of_row w2 q _ _ _ hrow2, lt_of_block hrow2⟩
        · exact i2.kept (Kept.setCell (Kept.refl _ (fun k => k = q)) ⟨q, o + k, none⟩ _ (fun _ => rfl)) hbg.2.2 (fun j e => HV.out j (hvk j (s2 j e)))
        · exact fun j e => hvk j (s2 j e)
        · have h3 := heap_setK (i := o + k) (.int .i64 l[k]) hrow2
          have h4 := cellsK_next base o (l.map (Value.int .i64)) k (by simpa using hlt) (by rw [List.length_map]; omega)
          rw [List.getElem_map] at h4
          rw [h3, List.setIfInBounds_toArray, h4]
        · exact (hK.trans' k2 (fun j _ e => e) (fun j _ e => .inl e)).trans' (Kept.setCell (Kept.refl _ (fun k => k = q)) ⟨q, o + k, none⟩ _ (fun _ => rfl)) (fun j _ e => e) (fun j _ e => .inr e)
        · obtain ⟨n, hn⟩ := HBI.out (o + k) (by omega) (by omega)
          refine ⟨n, ?_⟩
          rw [cell_of_row w2 q (o + k) _ _ _ hrow2, List.getElem?_toArray, cellsK_at _ _ _ _ (by simpa using hk) (by omega)]
          exact hn
      clear hR hvk hrow hK HP hbyk
      generalize l[k] = x at *
      go_wp2_with fail
      refine Calls.mono HG.out ?_
      rintro e w2 ⟨rfl, HP2, ⟨n2, c2⟩, f2, l2⟩
      go_wp2_with fail
      go_roundw
      case rel => exact ⟨k + 1, by omega, by go_num, HP2⟩
      case measure => simp [intOf]; omega
    · obtain rfl : k = l.length := by omega
      rw [List.drop_of_length_le (Nat.le_refl _)] at HP
      go_wp2_with fail
      go_end0
      exact ⟨rfl, HP.out⟩
end Go.Proofs.YtdbphdllibffnaaGreat
