/- ManiNone, walked. -/
import Derived.Test.YtkpdckpcnnmdkaaMaNJ
import Derived.Test.YtkpdckpcnnmdkaaMaAJ
namespace Go.Proofs.Ytkpdckpcnnmdkaa
open Go.RowKit Go.Shelf
set_option maxRecDepth 8000

set_option maxHeartbeats 2000000 in
theorem none_walk (m : MaD) (w : World) :
    Calls Try.prog 6 #[m.val] w fun r w' => r = .returned (.bool true) ∧ Below w.heap.size w w' := by
  obtain ⟨V, eV⟩ : ∃ V, V = w.alloc (.cells #[.int .u32 m.boot, .int .u32 m.acc, .int .u32 m.cur, .int .i64 m.snap, .int .i64 m.log] 24) := ⟨_, rfl⟩
  obtain ⟨X, eX⟩ : ∃ X, X = V.alloc (.cells plainC 56) := ⟨_, rfl⟩
  have hbX : Below w.heap.size w X := by rw [eX]; refine Below.step ?_ (one_allocK _ _); rw [eV]; exact one_allocK _ _
  have rX : X.heap[w.heap.size]? = some (.cells #[.int .u32 m.boot, .int .u32 m.acc, .int .u32 m.cur, .int .i64 m.snap, .int .i64 m.log] 24 (0, 0)) := by
    rw [eX, Below.heap_alloc _ _ _ (by rw [eV, World.size_alloc]; omega), eV]; exact heap_alloc_new w _
  have pX : X.heap[V.heap.size]? = some (.cells plainC 56 (0, 0)) := by rw [eX]; exact heap_alloc_new V _
  have hVs : V.heap.size = w.heap.size + 1 := by rw [eV, World.size_alloc]
  rw [hVs] at pX
  have HX : Hid (Below w.heap.size w X ∧ X.heap[w.heap.size]? = some (.cells #[.int .u32 m.boot, .int .u32 m.acc, .int .u32 m.cur, .int .i64 m.snap, .int .i64 m.log] 24 (0, 0)) ∧ Nd (.pointer (some ⟨w.heap.size + 1, 0, none⟩)) X) := ⟨hbX, rX, .inr ⟨_, rfl, pX⟩⟩
  have HE : Hid (X = (w.alloc (.cells #[.int .u32 m.boot, .int .u32 m.acc, .int .u32 m.cur, .int .i64 m.snap, .int .i64 m.log] 24)).alloc (.cells plainC 56)) := by rw [← eV]; exact eX
  have HA : Hid (∀ (x : World), Below X.heap.size X x → x.cell? ⟨w.heap.size, 0, none⟩ = some (.int .u32 m.boot) ∧ x.cell? ⟨w.heap.size, 1, none⟩ = some (.int .u32 m.acc) ∧ x.cell? ⟨w.heap.size, 2, none⟩ = some (.int .u32 m.cur) ∧ x.cell? ⟨w.heap.size, 3, none⟩ = some (.int .i64 m.snap) ∧ x.cell? ⟨w.heap.size, 4, none⟩ = some (.int .i64 m.log) ∧ w.heap.size < x.heap.size) := fun x hx => by
    have hr := (Below.kept hx).heap rX (fun e => by have := lt_of_block rX; omega)
    exact ⟨cell_of_row x _ 0 _ _ _ hr, cell_of_row x _ 1 _ _ _ hr, cell_of_row x _ 2 _ _ _ hr, cell_of_row x _ 3 _ _ _ hr, cell_of_row x _ 4 _ _ _ hr, lt_of_block hr⟩
  have hq : ∀ W : World, (binOp .eql 24 (.agg #[.int .u32 0, .int .u32 0, .int .u32 0, .int .i64 0, .int .i64 0]) (.agg #[.int .u32 0, .int .u32 0, .int .u32 0, .int .i64 0, .int .i64 0])).run Try.prog W = .ok (.bool true) W := fun W => by
    have := eqMan zM zM W
    rw [eqM_self] at this
    exact this
  clear hbX rX pX hVs eX eV V
  obtain ⟨c0, c1, c2, c3, c4, hl⟩ := HA.out X (Below.refl _ _)
  go_enter Try.func6, Try.ntmps6
  go_upto_region 3 with fail
  rw [← HE.out]
  go_wp2_with fail
  refine Calls.mono (mput_nd (v := .pointer none) (.inl rfl) m) ?_
  rintro e w1 ⟨rfl, hb1⟩
  have H1 : Hid _ := hb1
  clear c0 c1 c2 c3 c4 hl hb1
  obtain ⟨c0, c1, c2, c3, c4, hl⟩ := HA.out w1 H1.out
  go_wp2_with fail
  refine Calls.mono (mput_nd (HX.out.2.2.below H1.out) m) ?_
  rintro e w2 ⟨rfl, hb2⟩
  have H2 : Hid (Below X.heap.size X w2) := Below.step H1.out hb2
  clear c0 c1 c2 c3 c4 hl hb2 H1
  go_wp2_with fail
  refine Calls.mono (mget_nd (v := .pointer none) (.inl rfl)) ?_
  rintro e w3 ⟨rfl, hb3⟩
  obtain ⟨W4, eW4⟩ : ∃ W4, W4 = w3.alloc (.cells #[.int .u32 0, .int .u32 0, .int .u32 0, .int .i64 0, .int .i64 0] 24) := ⟨_, rfl⟩
  have r4 : W4.heap[w3.heap.size]? = some (.cells #[.int .u32 0, .int .u32 0, .int .u32 0, .int .i64 0, .int .i64 0] 24 (0, 0)) := by rw [eW4]; exact heap_alloc_new w3 _
  have H4 : Hid (Below X.heap.size X W4 ∧ W4.heap[w3.heap.size]? = some (.cells #[.int .u32 0, .int .u32 0, .int .u32 0, .int .i64 0, .int .i64 0] 24 (0, 0))) := ⟨Below.step (Below.step H2.out hb3) (by rw [eW4]; exact one_allocK _ _), r4⟩
  have HE4 : Hid _ := eW4
  obtain ⟨b4, hb4⟩ : ∃ b, b = w3.heap.size := ⟨_, rfl⟩
  rw [← hb4] at H4
  clear r4 eW4 hb3 H2
  go_upto_region 6 with fail
  rw [← HE4.out, ← hb4]
  clear HE4 hb4
  go_wp2_with fail
  refine Calls.mono (mget_nd (HX.out.2.2.below H4.out.1)) ?_
  rintro e w5 ⟨rfl, hb5⟩
  obtain ⟨W6, eW6⟩ : ∃ W6, W6 = w5.alloc (.cells #[.int .u32 0, .int .u32 0, .int .u32 0, .int .i64 0, .int .i64 0] 24) := ⟨_, rfl⟩
  obtain ⟨W7, eW7⟩ : ∃ W7, W7 = W6.alloc (.cells #[.int .u32 0, .int .u32 0, .int .u32 0, .int .i64 0, .int .i64 0] 24) := ⟨_, rfl⟩
  have s6 : W6.heap.size = w5.heap.size + 1 := by rw [eW6, World.size_alloc]
  have hb6 : Below w5.heap.size w5 W6 := by rw [eW6]; exact one_allocK _ _
  have hb7 : Below W6.heap.size W6 W7 := by rw [eW7]; exact one_allocK _ _
  have r6 : W6.heap[w5.heap.size]? = some (.cells #[.int .u32 0, .int .u32 0, .int .u32 0, .int .i64 0, .int .i64 0] 24 (0, 0)) := by rw [eW6]; exact heap_alloc_new w5 _
  have r7 : W7.heap[W6.heap.size]? = some (.cells #[.int .u32 0, .int .u32 0, .int .u32 0, .int .i64 0, .int .i64 0] 24 (0, 0)) := by rw [eW7]; exact heap_alloc_new W6 _
  rw [s6] at r7
  have l4 := lt_of_block H4.out.2
  have H7 : Hid (Below w.heap.size w W7 ∧ W7.heap[b4]? = some (.cells #[.int .u32 0, .int .u32 0, .int .u32 0, .int .i64 0, .int .i64 0] 24 (0, 0)) ∧ W7.heap[w5.heap.size]? = some (.cells #[.int .u32 0, .int .u32 0, .int .u32 0, .int .i64 0, .int .i64 0] 24 (0, 0)) ∧ W7.heap[w5.heap.size + 1]? = some (.cells #[.int .u32 0, .int .u32 0, .int .u32 0, .int .i64 0, .int .i64 0] 24 (0, 0))) :=
    ⟨Below.step HX.out.1 (Below.step H4.out.1 (Below.step hb5 (Below.step hb6 hb7))), (Below.kept (Below.step hb5 (Below.step hb6 hb7))).heap H4.out.2 (fun e => by omega), (Below.kept hb7).heap r6 (fun e => by omega), r7⟩
  have HE7 : Hid (W7 = (w5.alloc (.cells #[.int .u32 0, .int .u32 0, .int .u32 0, .int .i64 0, .int .i64 0] 24)).alloc (.cells #[.int .u32 0, .int .u32 0, .int .u32 0, .int .i64 0, .int .i64 0] 24)) := by rw [← eW6]; exact eW7
  obtain ⟨b5, hb5'⟩ : ∃ b, b = w5.heap.size := ⟨_, rfl⟩
  rw [← hb5'] at H7
  clear r6 r7 s6 hb5 hb6 hb7 eW6 eW7 l4 H4
  go_upto_region 8 with fail
  rw [← HE7.out, ← hb5']
  clear HE7 hb5'
  go_wp2_with fail
  refine Calls.mono (lives_m W7) ?_
  rintro e w8 ⟨rfl, hb8⟩
  have h8 : ∀ b : Nat, W7.heap[b]? = some (.cells #[.int .u32 0, .int .u32 0, .int .u32 0, .int .i64 0, .int .i64 0] 24 (0, 0)) → w8.heap[b]? = some (.cells #[.int .u32 0, .int .u32 0, .int .u32 0, .int .i64 0, .int .i64 0] 24 (0, 0)) := fun b hb => (Below.kept hb8).heap hb (fun e => by have := lt_of_block hb; omega)
  have x4 := h8 _ H7.out.2.1
  have x5 := h8 _ H7.out.2.2.1
  have x6 := h8 _ H7.out.2.2.2
  have H8 : Hid (Below w.heap.size w w8) := Below.step H7.out.1 hb8
  have q0 := cell_of_row w8 _ 0 _ _ _ x4
  have q1 := cell_of_row w8 _ 1 _ _ _ x4
  have q2 := cell_of_row w8 _ 2 _ _ _ x4
  have q3 := cell_of_row w8 _ 3 _ _ _ x4
  have q4 := cell_of_row w8 _ 4 _ _ _ x4
  have y0 := cell_of_row w8 _ 0 _ _ _ x5
  have y1 := cell_of_row w8 _ 1 _ _ _ x5
  have y2 := cell_of_row w8 _ 2 _ _ _ x5
  have y3 := cell_of_row w8 _ 3 _ _ _ x5
  have y4 := cell_of_row w8 _ 4 _ _ _ x5
  have z0 := cell_of_row w8 _ 0 _ _ _ x6
  have z1 := cell_of_row w8 _ 1 _ _ _ x6
  have z2 := cell_of_row w8 _ 2 _ _ _ x6
  have z3 := cell_of_row w8 _ 3 _ _ _ x6
  have z4 := cell_of_row w8 _ 4 _ _ _ x6
  simp only [List.getElem?_toArray, List.getElem?_cons_zero, List.getElem?_cons_succ] at q0 q1 q2 q3 q4 y0 y1 y2 y3 y4 z0 z1 z2 z3 z4
  have l4 := lt_of_block x4
  have l5 := lt_of_block x5
  have l6 := lt_of_block x6
  clear h8 x4 x5 x6 hb8 H7
  go_wp2_with fail
  go_ret
  exact ⟨rfl, H8.out⟩
end Go.Proofs.Ytkpdckpcnnmdkaa

/- manifest: bytes of which one is another one, that are cut or with one more; an append of one byte to a copy. No Go function is walked here. -/
namespace Go.Proofs.Ytkpdckpcnnmdkaa
open Go.RowKit Go.Shelf
set_option maxRecDepth 8000

theorem mxor_byte (x y : Int) (h0 : 0 ≤ x) (h1 : x ≤ 255) (h2 : 0 ≤ y) (h3 : y ≤ 255) : 0 ≤ bits .xor .u8 x y ∧ bits .xor .u8 x y ≤ 255 := by
  rw [u8_xor x y (by omega) (by omega) (by omega) (by omega)]
  have : x.toNat ^^^ y.toNat < 2 ^ 8 := Nat.xor_lt_two_pow (by omega) (by omega)
  omega
theorem mxor_turns (x b : Int) (h0 : 0 ≤ x) (h1 : x ≤ 255) (h2 : 0 < b) (h3 : b ≤ 255) : bits .xor .u8 x b ≠ x := by
  rw [u8_xor x b (by omega) (by omega) (by omega) (by omega)]
  intro e
  have e1 : x.toNat ^^^ b.toNat = x.toNat := by omega
  have e2 := congrArg (x.toNat ^^^ ·) e1
  simp only [← Nat.xor_assoc, Nat.xor_self, Nat.zero_xor] at e2
  omega
theorem mxor_none (x : Int) (h0 : 0 ≤ x) (h1 : x ≤ 255) : bits .xor .u8 x 0 = x := by
  rw [u8_xor x 0 (by omega) (by omega) (by omega) (by omega)]
  simp
  omega
theorem mbyts_set {xs : List Int} (h : Byts xs) (k : Nat) (x : Int) (h0 : 0 ≤ x) (h1 : x ≤ 255) : Byts (xs.set k x) := fun y hy => by
  rcases List.mem_or_eq_of_mem_set hy with hy | rfl
  · exact h y hy
  · exact ⟨h0, h1⟩

theorem maF_take4 (m : MaD) : (maF m).take 4 = [0, 0, 0, 29] := by
  show ((headL (maB m) ++ maB m) ++ [66]).take 4 = _
  unfold headL
  rw [maB_len]
  simp [be4]

theorem man_cut (m : MaD) (k : Nat) (hk : k < 38) : bodyLen ((maF m).take k) = 0 := by
  have := bodyLen_cut (maB m) [] k (by rw [maB_len]; omega)
  rw [List.append_nil] at this
  exact this

theorem man_more (m : MaD) (t : Int) : bodyLen (maF m ++ [t]) + 9 ≠ (maF m ++ [t]).length := by
  rw [bodyLen_frame (maB m) [t] (maB_sz m), List.length_append, maF_len, maB_len]
  simp

theorem man_turn (m : MaD) (hm : m.Fits) (k : Nat) (hk : k < 38) (y : Int) (h0 : 0 ≤ y) (h1 : y ≤ 255) (hne : y ≠ (maF m).getD k 0) : bodyLen ((maF m).set k y) = 0 ∨ bodyLen ((maF m).set k y) + 9 ≠ ((maF m).set k y).length := by
  by_cases h4 : 4 ≤ k
  · left
    have := bodyLen_turn (maB m) [] k y (maB_sz m) (maB_byts m hm) h4 (by rw [maB_len]; omega) h0 h1 (by rw [List.append_nil]; exact hne)
    rw [List.append_nil] at this
    exact this
  · right
    rw [List.length_set, maF_len]
    intro e
    have e29 : bodyLen ((maF m).set k y) = 29 := by omega
    have t4 : ((maF m).set k y).take 4 = ([0, 0, 0, 29] : List Int).set k y := by rw [List.take_set, maF_take4]
    have g4 : (maF m).getD k 0 = ([0, 0, 0, 29] : List Int).getD k 0 := by
      rw [← maF_take4 m, List.getD_eq_getElem?_getD, List.getD_eq_getElem?_getD, List.getElem?_take, if_pos (by omega)]
    rw [g4] at hne
    unfold bodyLen at e29
    rw [List.length_set, maF_len, if_neg (by omega)] at e29
    simp only [t4] at e29
    have hn : num (([0, 0, 0, 29] : List Int).set k y) = 29 := by
      split at e29
      · omega
      · split at e29
        · omega
        · omega
    match k, h4 with
    | 0, _ => simp [num] at hn hne; omega
    | 1, _ => simp [num] at hn hne; omega
    | 2, _ => simp [num] at hn hne; omega
    | 3, _ => simp [num] at hn hne; omega
    | k + 4, h4 => omega

/-- 'append(s, x...)' of bytes, run: s nil or a row of the call's own; x any bytes that are seen. -/
theorem mrun_app {P : Program} (w : World) (t ty : TypeId) (i : TypeInfo) (h1 : P.underlying t = some (.slice 5)) (h2 : P.info? 5 = some i) (h3 : i.zero = some (.int .u8 0)) (h4 : i.size = 1) (h5 : i.bytes = 1)
    (v u : Value) (xs ys : List Int) (hown : Owns w 0 v xs) (hsee : Sees w u ys) (hb : xs.length + ys.length ≤ 140737488355328) :
    ∃ v' w', (Builtin.append_ #[t, t] ty #[v, u]).run P w = .ok v' w' ∧ Owns w' 0 v' (xs ++ ys) ∧ w.grownBy w' v.ownBlock ∧ NewRow w v v' := by
  obtain ⟨ao, cap, rfl, g1, g2, g0, g3⟩ := hsee
  have hlen : xs.length + ys.length = (xs ++ ys).length := by simp
  have h63 : xs.length + ys.length ≤ maxLen := by unfold maxLen; omega
  have hby : (xs.length + ys.length) * 1 ≤ 140737488355328 := by omega
  -- the source's address, or none
  cases ao with
  | none =>
    have hy : ys = [] := by
      have := g0 rfl
      exact List.eq_nil_of_length_eq_zero (by omega)
    subst hy
    have hc := g0 rfl
    subst hc
    refine ⟨v, w, run_append_owned_none w 0 t ty 5 i 1 h1 h2 v xs.length _ hown, by simpa using hown, World.grownBy.refl _ _, .inl rfl⟩
  | some ad =>
    have hnews : ∀ j u, (ys.map (Value.int .u8))[j]? = some u → w.cell? (ad.add j) = some u := by
      rcases g3 with rfl | ⟨b, off, e, g3⟩
      · intro j u hj; simp at hj
      · simp at e; subst e; exact news_at g3
    have hone : ∀ u ∈ ys.map (Value.int .u8), u.oneCell' = true := ints_oneCell .u8 ys
    rcases hown.2 with ⟨rfl, h0⟩ | ⟨g, c, cur, rfl, k1, k2, k3, k4, k5, k6⟩
    · have hx0 : xs = [] := List.eq_nil_of_length_eq_zero h0
      subst hx0
      obtain ⟨v', w', hrun, r1, r2, r3⟩ := run_append_own (P := P) w w.heap.size t ty 5 i (.int .u8 0) 1 1 h1 h2 h3 h4 h5 rfl (by decide) (.slice none 0 0) 0 [] (World.ownsRow_nil w _ _ _) ad ys.length cap _ (by simp) hnews hone (by simpa using h63) (by simpa using hby) (Nat.le_refl _)
      refine ⟨v', w', hrun, ?_, r2, newRow_own r1 (.inl rfl)⟩
      exact owns_cast (base := w.heap.size) (n := 0 + ys.length) (xs := []) (by simp) r1
    · by_cases hfit : xs.length + ys.length ≤ c
      · obtain ⟨w', hrun, r1, r2⟩ := run_append_fits (P := P) w 0 t ty 5 i 1 h1 h2 h4 g xs.length c _ hown ad ys.length cap _ (by simp) hnews hone hfit
        exact ⟨_, w', hrun, owns_cast hlen r1, r2, .inl rfl⟩
      · have holds : ∀ j u, (xs.map (Value.int .u8))[j]? = some u → w.cell? ((⟨g, 0, none⟩ : Addr).add j) = some u :=
          news_at (off := 0) fun i hi => by rw [Nat.zero_add]; exact owns_cell hown i hi
        obtain ⟨v', w', hrun, r1, r2⟩ := run_append_arg_grows (P := P) w t ty 5 i (.int .u8 0) 1 1 h1 h2 h3 h4 h5 rfl (by decide) ⟨g, 0, none⟩ xs.length c _ (by simp) holds ad ys.length cap _ (by simp) hnews (by omega) h63 hby
        exact ⟨v', w', hrun, owns_cast hlen r1, ⟨r2.os, r2.tape, r2.output, r2.size, fun k hk _ => r2.block k hk (by simp)⟩, newRow_own r1 (.inr (by omega))⟩

theorem mwp_app {P : Program} {o : Oper} {a : Act} {w : World} {K : Act → World → Prop} {Q : Exit → Act → World → Prop} (s x : Operand) (t : TypeId) (hop : o.op = Op.call { callee := Callee.builtin Builtin.append, args := #[s, x], argTypes := #[t, t] }) (v u v' : Value) (w' : World) (hs : a.eval s = v) (hx : a.eval x = u) (hrun : (Builtin.append_ #[t, t] o.type #[v, u]).run P w = .ok v' w') (h : K (a.put o.dst v') w') : Oper.wp P o a w K Q := by
  unfold Oper.wp
  simp [execOp, hop, resolve, invoke, builtin, hs, hx, hrun, Result.andThen]
  exact h

/-- One byte more behind a copy. -/
theorem one_more {U X : World} {v u : Value} {xs : List Int} {t : Int} {n : Nat} (hn : xs.length + 1 = n) (hX : Below U.heap.size U X) (ho : Owns X U.heap.size v xs) (hl : xs.length ≤ 1000) (hu : Sees X u [t]) :
    ∃ x' y' X', (Builtin.append_ #[45, 45] 45 #[v, u]).run Try.prog X = .ok (.slice x' n y') X' ∧ Hid (Owns X' 0 (.slice x' n y') (xs ++ [t]) ∧ Below U.heap.size U X') := by
  obtain ⟨i0, hi0, hz0, hz1, hz2⟩ := info_parts Try.infoU8
  obtain ⟨v', X', hrun, r1, r2, r3⟩ := mrun_app (P := Try.prog) X 45 45 i0 Try.underlying45 hi0 hz0 hz1 hz2 v u xs [t] (owns_mono ho (Nat.zero_le _)) hu (by simp; omega)
  obtain ⟨x', y', e, _⟩ := own_shape r1
  have e2 : (xs ++ [t]).length = n := by simp [hn]
  rw [e2] at e
  subst e
  exact ⟨x', y', X', hrun, r1, hX.grown r2 hX.size (fun k hk => (ho.lt k hk).1)⟩

theorem owns_later {w w' : World} {base : Nat} {v : Value} {xs : List Int} (h : Owns w base v xs) (hb : Below w.heap.size w w') : Owns w' base v xs :=
  Owns.kept h (Below.kept hb) (fun k hk e => by have := (h.lt k hk).2; omega)

theorem sees_one (w : World) (t : Int) : Sees (w.alloc (.cells #[.int .u8 t] 5)) (.slice (some ⟨w.heap.size, 0, none⟩) 1 1) [t] := by
  refine ⟨some ⟨w.heap.size, 0, none⟩, 1, rfl, Nat.le_refl _, by unfold maxLen; omega, fun e => by simp at e, .inr ⟨_, _, rfl, fun i hi => ?_⟩⟩
  have hi0 : i = 0 := by simp at hi; omega
  subst hi0
  exact cell_of_row _ _ 0 _ _ _ (heap_alloc_new w _)

theorem set_same (xs : List Int) (k : Nat) (h : k < xs.length) : xs.set k (xs.getD k 0) = xs := by
  apply List.ext_getElem
  · simp
  · intro i h1 h2
    rw [List.getElem_set]
    split
    · rename_i e; subst e; simp [List.getD_eq_getElem?_getD, h]
    · rfl
end Go.Proofs.Ytkpdckpcnnmdkaa
