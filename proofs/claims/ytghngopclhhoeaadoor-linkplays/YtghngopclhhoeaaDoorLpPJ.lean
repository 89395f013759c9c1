/- LinkPlays' does: Double, Spoil, and what is no call. -/
import Derived.Test.YtghngopclhhoeaaDoorLpOJ
import Derived.Test.YtghngopclhhoeaaDoorLkOJ
import Derived.Test.YtghngopclhhoeaaDoorLkFJ
namespace Go.Proofs.YtghngopclhhoeaaDoor
open Go.RowKit
set_option maxRecDepth 8000
set_option linter.unusedSimpArgs false
set_option linter.unusedVariables false

/-- What a call reads of the World and of its Op. -/
structure BxQ (V : World) (R : PlR) (bx : Nat) (f t : Int) (bv : Value) (pl k xx : Int) : Prop where
  x0 : V.cell? ⟨R.x, 0, none⟩ = some (.pointer (some ⟨R.N, 0, none⟩))
  x1 : V.cell? ⟨R.x, 1, none⟩ = some (.pointer (some ⟨R.d, 0, none⟩))
  x2 : V.cell? ⟨R.x, 2, none⟩ = some R.kv
  x3 : V.cell? ⟨R.x, 3, none⟩ = some R.wv
  o2 : V.cell? ⟨bx, 2, none⟩ = some (.int .i8 f)
  o3 : V.cell? ⟨bx, 3, none⟩ = some (.int .i8 t)
  o4 : V.cell? ⟨bx, 4, none⟩ = some bv
  o5 : V.cell? ⟨bx, 5, none⟩ = some (.int .i64 pl)
  o6 : V.cell? ⟨bx, 6, none⟩ = some (.int .i64 k)
  o7 : V.cell? ⟨bx, 7, none⟩ = some (.int .u8 xx)
  zx : R.x < V.heap.size
  zb : bx < V.heap.size
/-- The box of the Op. -/
def BoxQ (V : World) (bx : Nat) (kd on f t : Int) (bv : Value) (pl k xx : Int) : Prop := V.heap[bx]? = some (.cells #[.int .i64 kd, .int .i64 on, .int .i8 f, .int .i8 t, bv, .int .i64 pl, .int .i64 k, .int .u8 xx] 41 (0, 0))
theorem BxQ.of {V : World} {own : Nat → Nat} {p : Nat} {R : PlR} {bx : Nat} {kd on f t pl k xx : Int} {bv : Value} (h : Pq V own p R) (hb : BoxQ V bx kd on f t bv pl k xx) : BxQ V R bx f t bv pl k xx :=
  ⟨by rw [cell_of_row _ _ 0 _ _ _ h.row]; rfl, by rw [cell_of_row _ _ 1 _ _ _ h.row]; rfl, by rw [cell_of_row _ _ 2 _ _ _ h.row]; rfl, by rw [cell_of_row _ _ 3 _ _ _ h.row]; rfl, by rw [cell_of_row _ _ 2 _ _ _ hb]; rfl, by rw [cell_of_row _ _ 3 _ _ _ hb]; rfl, by rw [cell_of_row _ _ 4 _ _ _ hb]; rfl, by rw [cell_of_row _ _ 5 _ _ _ hb]; rfl, by rw [cell_of_row _ _ 6 _ _ _ hb]; rfl, by rw [cell_of_row _ _ 7 _ _ _ hb]; rfl, lt_of_block h.row, lt_of_block hb⟩

theorem BxQ.re {V : World} {R R' : PlR} {bx : Nat} {f t pl k xx : Int} {bv : Value} (h : BxQ V R' bx f t bv pl k xx) (hx : R'.x = R.x) (hN : R'.N = R.N) (hd : R'.d = R.d) (hk : R'.kv = R.kv) (hw : R'.wv = R.wv) : BxQ V R bx f t bv pl k xx :=
  ⟨by rw [← hx, ← hN]; exact h.x0, by rw [← hx, ← hd]; exact h.x1, by rw [← hx, ← hk]; exact h.x2, by rw [← hx, ← hw]; exact h.x3, h.o2, h.o3, h.o4, h.o5, h.o6, h.o7, by rw [← hx]; exact h.zx, h.zb⟩

theorem bel_keptQ {w w' : World} (h : Below w.heap.size w w') : Kept w w' (fun _ => False) := ⟨h.os, h.tape, h.output, h.size, fun k hk _ => h.block k hk⟩
section
variable {W : World} {own : Nat → Nat} {p : Nat} {R : PlR}

/-- The box of an Op is nothing of the World's, and stands. -/
theorem BoxQ.stp {W V : World} {own own' : Nat → Nat} {bx : Nat} {kd on f t pl k xx : Int} {bv : Value} (hb : BoxQ W bx kd on f t bv pl k xx) (ho : own bx / 10 ≠ p) (hs : Stp W V own own' p) : BoxQ V bx kd on f t bv pl k xx ∧ own' bx / 10 ≠ p :=
  ⟨hs.kept.heap hb (fun e => ho e), by rw [hs.old _ (lt_of_block hb) ho]; exact ho⟩

/-- The nets side by side: the program's Double. -/
theorem Pq.dbl (h : Pq W own p R) (pl : Int) (hl : R.l.length ≤ 99999999) : Calls Tryd.prog 22 #[.pointer (some ⟨R.N, 0, none⟩), .int .i64 pl] W fun e w' => ∃ er own' v' l', e = .returned (.int .i64 er) ∧ Pq w' own' p { R with v := v', l := l' } ∧ Stp W w' own own' p ∧
    ((er = 220 ∧ l' = R.l ∧ (pl < 0 ∨ (R.l.length : Int) ≤ pl)) ∨ ∃ (q : Nat) (m m' : MsD), pl = (q : Int) ∧ R.l[q]? = some m ∧ l' = R.l ++ [m'] ∧ sameG m.gd m'.gd ∧ er = 0) := by
  by_cases hp : pl < 0 ∨ (R.l.length : Int) ≤ pl
  · refine (double_no h.nt pl hp).mono ?_
    rintro e w' ⟨rfl, n, rfl⟩
    have hk : Kept W (W.drewN n) (fun _ => False) := (Kept.refl _ _).drewN n
    exact ⟨220, own, R.v, R.l, rfl, h.new hk, Stp.new hk, .inl ⟨rfl, rfl, hp⟩⟩
  · obtain ⟨q, hq⟩ : ∃ q : Nat, pl = (q : Int) := ⟨pl.toNat, by omega⟩
    obtain ⟨m, hm⟩ : ∃ m, R.l[q]? = some m := ⟨_, List.getElem?_eq_getElem (by omega)⟩
    rw [hq]
    refine (double_yes h.nt hm (by omega)).mono ?_
    rintro e w' ⟨rfl, v', G, hn, hk, hnr, hG⟩
    have hk' : Kept W w' (fun k => Fn R.N R.v R.l k) := hk.mono (fun k _ e => e.elim .inl (fun e => .inr (.inl e)))
    refine ⟨0, _, v', _, rfl, h.net hn hk' (fun k hf => ?_), Stp.up hk' (fun k _ hf => h.on10 hf), .inr ⟨q, m, _, rfl, hm, rfl, ⟨rfl, rfl, rfl, rfl⟩, rfl⟩⟩
    rcases hf with e | e | ⟨m2, hm2, e⟩
    · exact .inl (.inl e)
    · rcases hnr with e2 | ⟨k', e2, hk2⟩
      · exact .inl (.inr (.inl (by rw [← e2]; exact e)))
      · rw [e2] at e; cases e; exact .inr hk2
    · rcases List.mem_append.1 hm2 with hm2 | hm2
      · exact .inl (.inr (.inr ⟨m2, hm2, e⟩))
      · simp at hm2
        subst hm2
        exact .inr (by rw [← e]; exact hG)

/-- The document's Double. -/
theorem Pq.rdbl (h : Pq W own p R) (pl : Int) (hl : R.L.length ≤ 99999999) : Calls Tryd.prog 23 #[.pointer (some ⟨R.d, 0, none⟩), .int .i64 pl] W fun e w' => ∃ er own' V' L', e = .returned (.int .i64 er) ∧ Pq w' own' p { R with V := V', L := L' } ∧ Stp W w' own own' p ∧
    ((er = 220 ∧ L' = R.L ∧ (pl < 0 ∨ (R.L.length : Int) ≤ pl)) ∨ ∃ (q : Nat) (m m' : MsG) (L4 : List MsG), pl = (q : Int) ∧ R.L[q]? = some m ∧ L' = L4 ++ [m'] ∧ AlikeG R.L L4 ∧ sameG m' m ∧ er = 0) := by
  by_cases hp : pl < 0 ∨ (R.L.length : Int) ≤ pl
  · refine (rDouble_no h.dn pl hp).mono ?_
    rintro e w' ⟨rfl, rfl⟩
    exact ⟨220, own, R.V, R.L, rfl, h, Stp.refl _ _ _, .inl ⟨rfl, rfl, hp⟩⟩
  · obtain ⟨q, hq⟩ : ∃ q : Nat, pl = (q : Int) := ⟨pl.toNat, by omega⟩
    obtain ⟨m, hm⟩ : ∃ m, R.L[q]? = some m := ⟨_, List.getElem?_eq_getElem (by omega)⟩
    rw [hq]
    refine (rDouble_yes h.dn (Nat.zero_le _) hm (by omega)).mono ?_
    rintro e w' ⟨rfl, V', L4, x, hd, hal, hsm, hk, hnew⟩
    have hk' : Kept W w' (fun k => k = R.d ∨ R.V.ownBlock = some k) := hk.mono (fun _ _ e => .inl e)
    have hlt : R.d < W.heap.size := lt_of_block h.dn.hb
    have hnd : ∀ k, (V'.ownBlock = some k ∨ ∃ m ∈ L4 ++ [x], m.v.ownBlock = some k) → W.heap.size ≤ k := fun k e => by
      rcases hnew k (.inr e) with e2 | e2
      · subst e2
        rcases e with e | ⟨m, hm, e⟩
        · obtain ⟨cs, e3⟩ := rowTl hd.ow.row e
          have := hd.hb
          rw [e3] at this; simp at this
        · obtain ⟨cs, e3⟩ := rowTl (hd.ow.own m hm) e
          have := hd.hb
          rw [e3] at this; simp at this
      · exact e2
    exact ⟨0, _, V', _, rfl, h.doc hd hk' (fun k e => .inr (hnd k (.inl e))) (fun m hm k e => .inr (hnd k (.inr ⟨m, hm, e⟩))), Stp.upD hk' (fun k _ hf => h.od10 hf), .inr ⟨q, m, x, L4, rfl, hm, rfl, hal, hsm, rfl⟩⟩

theorem dbl_both {l l1 : List MsD} {L L2 : List MsG} {pl er er2 : Int} (hal : AlikeG (l.map MsD.gd) L)
    (h1 : (er = 220 ∧ l1 = l ∧ (pl < 0 ∨ (l.length : Int) ≤ pl)) ∨ ∃ (q : Nat) (m m' : MsD), pl = (q : Int) ∧ l[q]? = some m ∧ l1 = l ++ [m'] ∧ sameG m.gd m'.gd ∧ er = 0)
    (h2 : (er2 = 220 ∧ L2 = L ∧ (pl < 0 ∨ (L.length : Int) ≤ pl)) ∨ ∃ (q : Nat) (m m' : MsG) (L4 : List MsG), pl = (q : Int) ∧ L[q]? = some m ∧ L2 = L4 ++ [m'] ∧ AlikeG L L4 ∧ sameG m' m ∧ er2 = 0) : er = er2 ∧ AlikeG (l1.map MsD.gd) L2 ∧ l1.length ≤ l.length + 1 := by
  have hLl : L.length = l.length := by have := hal.1; simpa using this.symm
  rcases h1 with ⟨rfl, rfl, hp⟩ | ⟨q, m, m', hq, hm, rfl, hs, rfl⟩
  · rcases h2 with ⟨rfl, rfl, _⟩ | ⟨q, m, m', L4, hq, hm, _⟩
    · exact ⟨rfl, hal, by omega⟩
    · have := (List.getElem?_eq_some_iff.1 hm).1
      omega
  · have := (List.getElem?_eq_some_iff.1 hm).1
    rcases h2 with ⟨_, _, hp⟩ | ⟨q2, m2, m2', L4, hq2, hm2, rfl, hal4, hs2, rfl⟩
    · omega
    · obtain rfl : q2 = q := by omega
      have e := hal.2 q2 m.gd m2 (by rw [List.getElem?_map, hm]; rfl) hm2
      refine ⟨rfl, ?_, by simp⟩
      rw [List.map_append]
      exact (hal.trans hal4).app ⟨hs.1.symm.trans (e.1.trans hs2.1.symm), hs.2.1.symm.trans (e.2.1.trans hs2.2.1.symm), hs.2.2.1.symm.trans (e.2.2.1.trans hs2.2.2.1.symm), hs.2.2.2.symm.trans (e.2.2.2.trans hs2.2.2.2.symm)⟩

set_option maxHeartbeats 4000000 in
theorem does_double (hp1 : p ≤ 1) (h : Pq W own p R) (hal : AlikeG (R.l.map MsD.gd) R.L) (hkt : AlikeG R.K R.T) (hl : R.l.length ≤ 99999998) (on f t : Int) (bv : Value) (pl k xx : Int) :
    Calls Tryd.prog 8 #[.pointer (some ⟨R.x, 0, none⟩), .agg #[.int .i64 3, .int .i64 on, .int .i8 f, .int .i8 t, bv, .int .i64 pl, .int .i64 k, .int .u8 xx]] W fun e w' => e = .returned (.bool true) ∧ Hid (DoQ W w' own p R) := by
  have hLl : R.L.length = R.l.length := by have := hal.1; simpa using this.symm
  obtain ⟨bx, hbx⟩ : ∃ b, b = W.heap.size := ⟨_, rfl⟩
  obtain ⟨W0, hW0⟩ : ∃ W0, W0 = W.alloc (.cells #[.int .i64 3, .int .i64 on, .int .i8 f, .int .i8 t, bv, .int .i64 pl, .int .i64 k, .int .u8 xx] 41) := ⟨_, rfl⟩
  obtain ⟨own0, hown0⟩ : ∃ o, o = upQ own W.heap.size 999 := ⟨_, rfl⟩
  have H0 : Hid (Pq W0 own0 p R ∧ BoxQ W0 bx 3 on f t bv pl k xx ∧ own0 bx / 10 ≠ p) := by
    rw [hW0, hbx, hown0]
    have hk : Kept W (W.alloc (.cells #[.int .i64 3, .int .i64 on, .int .i8 f, .int .i8 t, bv, .int .i64 pl, .int .i64 k, .int .u8 xx] 41)) (fun _ => False) := (Kept.refl _ _).alloc _
    exact ⟨h.keep hk (fun _ _ e => e.elim) (fun k hkl _ => upQ_old hkl), heap_alloc_new _ _, by rw [upQ_new (Nat.le_refl _)]; omega⟩
  have HOut : Hid (∀ w', DoQ W0 w' own0 p R → DoQ W w' own p R) := by
    rw [hW0, hown0]
    intro w' hq
    obtain ⟨own', R', h1, h2, h3, h4, h5, h6, h7⟩ := hq
    exact ⟨own', R', h1, h2, h3, h4, h5, h6, Stp.trans (own1 := upQ own W.heap.size 999) ⟨(Kept.refl W _).alloc _, fun k hkl _ => upQ_old hkl⟩ h7⟩
  have HST : Hid (Stp W W0 own own0 p) := by rw [hW0, hown0]; exact ⟨(Kept.refl W _).alloc _, fun k hkl _ => upQ_old hkl⟩
  have HW0 : Hid (W.alloc (.cells #[.int .i64 3, .int .i64 on, .int .i8 f, .int .i8 t, bv, .int .i64 pl, .int .i64 k, .int .u8 xx] 41) = W0) := hW0.symm
  have HBx : Hid (W.heap.size = bx) := hbx.symm
  have k0 : W0.cell? ⟨bx, 0, none⟩ = some (.int .i64 3) := by rw [cell_of_row _ _ 0 _ _ _ H0.out.2.1]; rfl
  have zb : bx < W0.heap.size := lt_of_block H0.out.2.1
  clear h hW0 hbx hown0
  have HP : Hid (AlikeG (R.l.map MsD.gd) R.L ∧ AlikeG R.K R.T) := ⟨hal, hkt⟩
  clear hal hkt
  have HD : Hid _ := Pq.dbl (H0.out.1.new ((Kept.refl _ _).drewN 1)) pl (by omega)
  go_enter Tryd.func8, Tryd.ntmps8
  go_upto_region 1 with fail
  rw [HW0.out, HBx.out]
  clear HW0 HBx
  go_wp2_with fail
  refine wp_region_held_drew (S := (fun V => BxQ V R bx f t bv pl k xx)) (by kernel_rfl) ?_ (fun hHeld => ?_)
  · exact BxQ.of (H0.out.1.new ((Kept.refl _ _).drewN 1)) H0.out.2.1
  refine wpAnyH_take (i := 0) (oi := { dst := some 168, op := Op.move (Operand.tmp 0), type := 25, pos := "law.go:84", after := #[], guard := none }) (v := ?_) rfl (by kernel_rfl) (by kernel_rfl) (by kernel_rfl) (fun _ _ _ h => h) (Or.inl ⟨by rfl, ?_⟩) (by assumption) ?_
  rotate_left
  · (intro w hSw; (try dsimp only at hSw); obtain ⟨x0, x1, x2, x3, o2, o3, o4, o5, o6, o7, zx, zb⟩ := hSw; go_simp) <;> with_reducible rfl
  try simp only [Act.put, List.setIfInBounds_toArray, List.set_cons_zero, List.set_cons_succ]
  refine wpAnyH_take (i := 1) (oi := { dst := some 169, op := Op.nilCheck (Operand.tmp 168), type := 0, pos := "law.go:84", after := #[{ on := 0, ground := Ground.data }], guard := none }) (v := ?_) rfl (by kernel_rfl) (by kernel_rfl) (by kernel_rfl) (fun _ _ _ h => h) (Or.inl ⟨by rfl, ?_⟩) (by assumption) ?_
  rotate_left
  · (intro w hSw; (try dsimp only at hSw); obtain ⟨x0, x1, x2, x3, o2, o3, o4, o5, o6, o7, zx, zb⟩ := hSw; go_simp) <;> with_reducible rfl
  try simp only [Act.put, List.setIfInBounds_toArray, List.set_cons_zero, List.set_cons_succ]
  refine wpAnyH_take (i := 2) (oi := { dst := some 170, op := Op.fieldAddr 37 (Operand.tmp 169) 0, type := 0, pos := "law.go:84", after := #[{ on := 1, ground := Ground.data }], guard := none }) (v := ?_) rfl (by kernel_rfl) (by kernel_rfl) (by kernel_rfl) (fun _ _ _ h => h) (Or.inl ⟨by rfl, ?_⟩) (by assumption) ?_
  rotate_left
  · (intro w hSw; (try dsimp only at hSw); obtain ⟨x0, x1, x2, x3, o2, o3, o4, o5, o6, o7, zx, zb⟩ := hSw; go_simp) <;> with_reducible rfl
  try simp only [Act.put, List.setIfInBounds_toArray, List.set_cons_zero, List.set_cons_succ]
  refine wpAnyH_take (i := 3) (oi := { dst := some 171, op := Op.load 28 (Operand.tmp 170), type := 28, pos := "law.go:84", after := #[{ on := 2, ground := Ground.data }], guard := none }) (v := ?_) rfl (by kernel_rfl) (by kernel_rfl) (by kernel_rfl) (fun _ _ _ h => h) (Or.inl ⟨by rfl, ?_⟩) (by assumption) ?_
  rotate_left
  · (intro w hSw; (try dsimp only at hSw); obtain ⟨x0, x1, x2, x3, o2, o3, o4, o5, o6, o7, zx, zb⟩ := hSw; go_simp) <;> with_reducible rfl
  try simp only [Act.put, List.setIfInBounds_toArray, List.set_cons_zero, List.set_cons_succ]
  refine wpAnyH_take (i := 4) (oi := { dst := some 172, op := Op.fieldAddr 41 (Operand.tmp 3) 5, type := 0, pos := "law.go:84", after := #[], guard := none }) (v := ?_) rfl (by kernel_rfl) (by kernel_rfl) (by kernel_rfl) (fun _ _ _ h => h) (Or.inl ⟨by rfl, ?_⟩) (by assumption) ?_
  rotate_left
  · (intro w hSw; (try dsimp only at hSw); obtain ⟨x0, x1, x2, x3, o2, o3, o4, o5, o6, o7, zx, zb⟩ := hSw; go_simp) <;> with_reducible rfl
  try simp only [Act.put, List.setIfInBounds_toArray, List.set_cons_zero, List.set_cons_succ]
  refine wpAnyH_take (i := 5) (oi := { dst := some 173, op := Op.load 3 (Operand.tmp 172), type := 3, pos := "law.go:84", after := #[{ on := 4, ground := Ground.data }], guard := none }) (v := ?_) rfl (by kernel_rfl) (by kernel_rfl) (by kernel_rfl) (fun _ _ _ h => h) (Or.inl ⟨by rfl, ?_⟩) (by assumption) ?_
  rotate_left
  · (intro w hSw; (try dsimp only at hSw); obtain ⟨x0, x1, x2, x3, o2, o3, o4, o5, o6, o7, zx, zb⟩ := hSw; go_simp) <;> with_reducible rfl
  try simp only [Act.put, List.setIfInBounds_toArray, List.set_cons_zero, List.set_cons_succ]
  refine wpAnyH_take (i := 7) (oi := { dst := some 175, op := Op.move (Operand.tmp 0), type := 25, pos := "law.go:84", after := #[], guard := none }) (v := ?_) rfl (by kernel_rfl) (by kernel_rfl) (by kernel_rfl) (fun _ _ _ h => h) (Or.inl ⟨by rfl, ?_⟩) (by assumption) ?_
  rotate_left
  · (intro w hSw; (try dsimp only at hSw); obtain ⟨x0, x1, x2, x3, o2, o3, o4, o5, o6, o7, zx, zb⟩ := hSw; go_simp) <;> with_reducible rfl
  try simp only [Act.put, List.setIfInBounds_toArray, List.set_cons_zero, List.set_cons_succ]
  refine wpAnyH_take (i := 8) (oi := { dst := some 176, op := Op.nilCheck (Operand.tmp 175), type := 0, pos := "law.go:84", after := #[{ on := 7, ground := Ground.data }], guard := none }) (v := ?_) rfl (by kernel_rfl) (by kernel_rfl) (by kernel_rfl) (fun _ _ _ h => h) (Or.inl ⟨by rfl, ?_⟩) (by assumption) ?_
  rotate_left
  · (intro w hSw; (try dsimp only at hSw); obtain ⟨x0, x1, x2, x3, o2, o3, o4, o5, o6, o7, zx, zb⟩ := hSw; go_simp) <;> with_reducible rfl
  try simp only [Act.put, List.setIfInBounds_toArray, List.set_cons_zero, List.set_cons_succ]
  refine wpAnyH_take (i := 9) (oi := { dst := some 177, op := Op.fieldAddr 37 (Operand.tmp 176) 1, type := 0, pos := "law.go:84", after := #[{ on := 8, ground := Ground.data }], guard := none }) (v := ?_) rfl (by kernel_rfl) (by kernel_rfl) (by kernel_rfl) (fun _ _ _ h => h) (Or.inl ⟨by rfl, ?_⟩) (by assumption) ?_
  rotate_left
  · (intro w hSw; (try dsimp only at hSw); obtain ⟨x0, x1, x2, x3, o2, o3, o4, o5, o6, o7, zx, zb⟩ := hSw; go_simp) <;> with_reducible rfl
  try simp only [Act.put, List.setIfInBounds_toArray, List.set_cons_zero, List.set_cons_succ]
  refine wpAnyH_take (i := 10) (oi := { dst := some 178, op := Op.load 32 (Operand.tmp 177), type := 32, pos := "law.go:84", after := #[{ on := 9, ground := Ground.data }], guard := none }) (v := ?_) rfl (by kernel_rfl) (by kernel_rfl) (by kernel_rfl) (fun _ _ _ h => h) (Or.inl ⟨by rfl, ?_⟩) (by assumption) ?_
  rotate_left
  · (intro w hSw; (try dsimp only at hSw); obtain ⟨x0, x1, x2, x3, o2, o3, o4, o5, o6, o7, zx, zb⟩ := hSw; go_simp) <;> with_reducible rfl
  try simp only [Act.put, List.setIfInBounds_toArray, List.set_cons_zero, List.set_cons_succ]
  refine wpAnyH_take (i := 11) (oi := { dst := some 179, op := Op.fieldAddr 41 (Operand.tmp 3) 5, type := 0, pos := "law.go:84", after := #[], guard := none }) (v := ?_) rfl (by kernel_rfl) (by kernel_rfl) (by kernel_rfl) (fun _ _ _ h => h) (Or.inl ⟨by rfl, ?_⟩) (by assumption) ?_
  rotate_left
  · (intro w hSw; (try dsimp only at hSw); obtain ⟨x0, x1, x2, x3, o2, o3, o4, o5, o6, o7, zx, zb⟩ := hSw; go_simp) <;> with_reducible rfl
  try simp only [Act.put, List.setIfInBounds_toArray, List.set_cons_zero, List.set_cons_succ]
  refine wpAnyH_take (i := 12) (oi := { dst := some 180, op := Op.load 3 (Operand.tmp 179), type := 3, pos := "law.go:84", after := #[{ on := 11, ground := Ground.data }], guard := none }) (v := ?_) rfl (by kernel_rfl) (by kernel_rfl) (by kernel_rfl) (fun _ _ _ h => h) (Or.inl ⟨by rfl, ?_⟩) (by assumption) ?_
  rotate_left
  · (intro w hSw; (try dsimp only at hSw); obtain ⟨x0, x1, x2, x3, o2, o3, o4, o5, o6, o7, zx, zb⟩ := hSw; go_simp) <;> with_reducible rfl
  try simp only [Act.put, List.setIfInBounds_toArray, List.set_cons_zero, List.set_cons_succ]
  refine wpAnyH_ready (rs := [6]) (by kernel_rfl) (by simp) ?_
  refine AllReadyH.cons (o := { dst := some 174, op := Op.call { callee := Callee.value (Operand.func 22), args := #[Operand.tmp 171, Operand.tmp 173], argTypes := #[28, 3] }, type := 29, pos := "law.go:84", after := #[{ on := 3, ground := Ground.data }, { on := 5, ground := Ground.data }], guard := none }) rfl (fun K hK => ?_) AllReadyH.nil
  go_simp
  refine Calls.mono HD.out ?_
  rintro _ w1 ⟨er, own1, v1, l1, rfl, hq1, hs1, hc1⟩
  have hs1 := (Stp.new (own := own0) (p := p) ((Kept.refl W0 _).drewN 1)).trans hs1
  have HB1 := H0.out.2.1.stp H0.out.2.2 hs1
  have H1 : Hid ((Pq w1 own1 p { R with v := v1, l := l1 } ∧ BoxQ w1 bx 3 on f t bv pl k xx ∧ own1 bx / 10 ≠ p) ∧ Stp W0 w1 own0 own1 p) := ⟨⟨hq1, HB1⟩, hs1⟩
  have HC1 : Hid _ := hc1
  have HD2 : Hid _ := Pq.rdbl hq1 pl (by show R.L.length ≤ _; omega)
  have S1 : BxQ w1 R bx f t bv pl k xx := (BxQ.of hq1 HB1.1).re rfl rfl rfl rfl rfl
  clear hq1 hs1 hc1 HB1 hHeld
  refine hK.out _ _ S1 (fun hHeld => ?_)
  clear hK K
  refine wpAnyH_ready (rs := [13]) (by kernel_rfl) (by simp) ?_
  refine AllReadyH.cons (o := { dst := some 181, op := Op.call { callee := Callee.value (Operand.func 23), args := #[Operand.tmp 178, Operand.tmp 180], argTypes := #[32, 3] }, type := 29, pos := "law.go:84", after := #[{ on := 10, ground := Ground.data }, { on := 12, ground := Ground.data }, { on := 6, ground := Ground.chain }], guard := none }) rfl (fun K hK => ?_) AllReadyH.nil
  go_simp
  refine Calls.mono HD2.out ?_
  rintro _ w2 ⟨er2, own2, V2, L2, rfl, hq2, hs2, hc2⟩
  have HB2 := H1.out.1.2.1.stp H1.out.1.2.2 hs2
  have H2 : Hid (Pq w2 own2 p { R with v := v1, l := l1, V := V2, L := L2 } ∧ Stp W0 w2 own0 own2 p) := ⟨hq2, H1.out.2.trans hs2⟩
  obtain ⟨hee, hal2, hll2⟩ := dbl_both HP.out.1 HC1.out hc2
  subst hee
  have HE2 : Hid (AlikeG (l1.map MsD.gd) L2 ∧ l1.length ≤ R.l.length + 1) := ⟨hal2, hll2⟩
  have S2 : BxQ w2 R bx f t bv pl k xx := (BxQ.of hq2 HB2.1).re rfl rfl rfl rfl rfl
  clear hq2 hs2 hc2 HB2 hHeld hal2 hll2
  refine hK.out _ _ S2 (fun hHeld => ?_)
  clear hK K
  refine wpAnyH_take (i := 14) (oi := { dst := some 182, op := Op.binOp BinOp.eql 29 (Operand.tmp 174) (Operand.tmp 181) 29, type := 4, pos := "law.go:84", after := #[{ on := 6, ground := Ground.data }, { on := 13, ground := Ground.data }], guard := none }) (v := ?_) rfl (by kernel_rfl) (by kernel_rfl) (by kernel_rfl) (fun _ _ _ h => h) (Or.inl ⟨by rfl, ?_⟩) (by assumption) ?_
  rotate_left
  · (intro w hSw; (try dsimp only at hSw); obtain ⟨x0, x1, x2, x3, o2, o3, o4, o5, o6, o7, zx, zb⟩ := hSw; go_simp) <;> with_reducible rfl
  try simp only [Act.put, List.setIfInBounds_toArray, List.set_cons_zero, List.set_cons_succ]
  refine wpAnyH_take (i := 15) (oi := { dst := some 4, op := Op.assign (Operand.tmp 182), type := 4, pos := "law.go:84", after := #[{ on := 14, ground := Ground.data }, { on := 13, ground := Ground.chain }, { on := 0, ground := Ground.phase }, { on := 1, ground := Ground.phase }, { on := 2, ground := Ground.phase }, { on := 3, ground := Ground.phase }, { on := 4, ground := Ground.phase }, { on := 5, ground := Ground.phase }, { on := 6, ground := Ground.phase }, { on := 7, ground := Ground.phase }, { on := 8, ground := Ground.phase }, { on := 9, ground := Ground.phase }, { on := 10, ground := Ground.phase }, { on := 11, ground := Ground.phase }, { on := 12, ground := Ground.phase }, { on := 13, ground := Ground.phase }, { on := 14, ground := Ground.phase }], guard := none }) (v := ?_) rfl (by kernel_rfl) (by kernel_rfl) (by kernel_rfl) (fun _ _ _ h => h) (Or.inl ⟨by rfl, ?_⟩) (by assumption) ?_
  rotate_left
  · (intro w hSw; (try dsimp only at hSw); obtain ⟨x0, x1, x2, x3, o2, o3, o4, o5, o6, o7, zx, zb⟩ := hSw; go_simp) <;> with_reducible rfl
  try simp only [Act.put, List.setIfInBounds_toArray, List.set_cons_zero, List.set_cons_succ]
  refine wpAnyH_done (by kernel_rfl) ?_ _
  have hee : (er == er) = true := by simp
  have HE : Hid (DoQ W0 w2 own0 p R) := ⟨own2, _, H2.out.1, HE2.out.1, HP.out.2, rfl, HE2.out.2, by show R.K.length ≤ _; omega, H2.out.2⟩
  clear hHeld
  go_wp2
  go_ret
  exact ⟨rfl, HOut.out _ HE.out⟩

/-- The program's Spoil. -/
theorem Pq.spl (h : Pq W own p R) (pl k xx : Int) (x0 : 0 ≤ xx) (x1 : xx ≤ 255) : Calls Tryd.prog 24 #[.pointer (some ⟨R.N, 0, none⟩), .int .i64 pl, .int .i64 k, .int .u8 xx] W fun e w' => ∃ er own' v' l', e = .returned (.int .i64 er) ∧ Pq w' own' p { R with v := v', l := l' } ∧ Stp W w' own own' p ∧
    ((er = 220 ∧ l' = R.l ∧ (pl < 0 ∨ (R.l.length : Int) ≤ pl)) ∨ ∃ (q : Nat) (m : MsD), pl = (q : Int) ∧ R.l[q]? = some m ∧ er = spE m k xx ∧ l' = if spE m k xx = 0 then R.l.set q (spM m k.toNat xx) else R.l) := by
  by_cases hp : pl < 0 ∨ (R.l.length : Int) ≤ pl
  · refine (spoil_none h.nt pl k xx hp).mono ?_
    rintro e w' ⟨rfl, hb⟩
    exact ⟨220, own, R.v, R.l, rfl, h.new (bel_keptQ hb), Stp.new (bel_keptQ hb), .inl ⟨rfl, rfl, hp⟩⟩
  · obtain ⟨q, rfl⟩ : ∃ q : Nat, pl = (q : Int) := ⟨pl.toNat, by omega⟩
    obtain ⟨m, hm⟩ : ∃ m, R.l[q]? = some m := ⟨_, List.getElem?_eq_getElem (by omega)⟩
    by_cases hE : spE m k xx = 0
    · obtain ⟨j, hj⟩ : ∃ j : Nat, k = (j : Int) := ⟨k.toNat, by
        have : ¬ k < 0 := fun h => by unfold spE at hE; rw [if_pos (.inl h)] at hE; simp at hE
        omega⟩
      subst hj
      refine (spoil_yes h.nt hm x0 x1 hE).mono ?_
      rintro e w' ⟨rfl, hn, hk⟩
      have hmm := List.mem_of_getElem? hm
      have hk' : Kept W w' (fun k => Fn R.N R.v R.l k) := hk.mono (fun k _ e => e.elim (fun e => .inr (.inl e)) (fun e => .inr (.inr ⟨m, hmm, e.symm⟩)))
      refine ⟨0, _, R.v, _, rfl, h.net hn hk' (fun k hf => ?_), Stp.up hk' (fun k _ hf => h.on10 hf), .inr ⟨q, m, rfl, hm, hE.symm, by rw [if_pos hE]; rfl⟩⟩
      rcases hf with e | e | ⟨m2, hm2, e⟩
      · exact .inl (.inl e)
      · exact .inl (.inr (.inl e))
      · rcases List.mem_or_eq_of_mem_set hm2 with hm2 | rfl
        · exact .inl (.inr (.inr ⟨m2, hm2, e⟩))
        · exact .inl (.inr (.inr ⟨m, hmm, e⟩))
    · refine (spoil_no h.nt hm k xx hE).mono ?_
      rintro e w' ⟨rfl, hb⟩
      exact ⟨_, own, R.v, R.l, rfl, h.new (bel_keptQ hb), Stp.new (bel_keptQ hb), .inr ⟨q, m, rfl, hm, rfl, by rw [if_neg hE]⟩⟩

/-- The document's Spoil. -/
theorem Pq.rspl (h : Pq W own p R) (pl k xx : Int) : Calls Tryd.prog 25 #[.pointer (some ⟨R.d, 0, none⟩), .int .i64 pl, .int .i64 k, .int .u8 xx] W fun e w' => ∃ er own' V' L', e = .returned (.int .i64 er) ∧ Pq w' own' p { R with V := V', L := L' } ∧ Stp W w' own own' p ∧
    ((er = 220 ∧ L' = R.L ∧ (pl < 0 ∨ (R.L.length : Int) ≤ pl)) ∨ ∃ (q : Nat) (m : MsG) (u : Value), pl = (q : Int) ∧ R.L[q]? = some m ∧ er = gE m k xx ∧ L' = if gE m k xx = 0 then R.L.set q ⟨m.f, m.t, u, m.bs.set k.toNat (bits .xor .u8 (m.bs.getD k.toNat 0) xx), true⟩ else R.L) := by
  by_cases hp : pl < 0 ∨ (R.L.length : Int) ≤ pl
  · refine (rSpoil_none h.dn pl k xx hp).mono ?_
    rintro e w' ⟨rfl, rfl⟩
    exact ⟨220, own, R.V, R.L, rfl, h, Stp.refl _ _ _, .inl ⟨rfl, rfl, hp⟩⟩
  · obtain ⟨q, rfl⟩ : ∃ q : Nat, pl = (q : Int) := ⟨pl.toNat, by omega⟩
    obtain ⟨m, hm⟩ : ∃ m, R.L[q]? = some m := ⟨_, List.getElem?_eq_getElem (by omega)⟩
    by_cases hE : gE m k xx = 0
    · obtain ⟨j, hj⟩ : ∃ j : Nat, k = (j : Int) := ⟨k.toNat, by
        have : ¬ k < 0 := fun h => by unfold gE at hE; rw [if_pos (.inl h)] at hE; simp at hE
        omega⟩
      subst hj
      refine (rSpoil_yes h.dn (Nat.zero_le _) hm hE).mono ?_
      rintro e w' ⟨rfl, u, hd, hk, hu⟩
      have hk' : Kept W w' (fun k => k = R.d ∨ R.V.ownBlock = some k) := hk.mono (fun _ _ e => .inr e)
      refine ⟨0, _, R.V, _, rfl, h.doc hd hk' (fun k e => .inl e) (fun m2 hm2 k e => ?_), Stp.upD hk' (fun k _ hf => h.od10 hf), .inr ⟨q, m, u, rfl, hm, hE.symm, by rw [if_pos hE]; rfl⟩⟩
      rcases List.mem_or_eq_of_mem_set hm2 with hm2 | rfl
      · exact .inl ⟨h.dn.ow.lt.2 m2 hm2 k e, h.om m2 hm2 k e⟩
      · exact .inr (hu k e)
    · refine (rSpoil_no h.dn hm k xx hE).mono ?_
      rintro e w' ⟨rfl, hb⟩
      exact ⟨_, own, R.V, R.L, rfl, h.new (bel_keptQ hb), Stp.new (bel_keptQ hb), .inr ⟨q, m, .slice none 0 0, rfl, hm, rfl, by rw [if_neg hE]⟩⟩

theorem AlikeG.setQ {l l' : List MsG} {x y : MsG} (h : AlikeG l l') (q : Nat) (g : sameG x y) : AlikeG (l.set q x) (l'.set q y) := by
  refine ⟨by simp [h.1], fun i a b ha hb => ?_⟩
  by_cases hi : i = q
  · subst hi
    have h1 := (List.getElem?_eq_some_iff.1 ha).1
    have h2 := (List.getElem?_eq_some_iff.1 hb).1
    rw [List.length_set] at h1 h2
    rw [List.getElem?_set_self h1] at ha
    rw [List.getElem?_set_self h2] at hb
    cases ha; cases hb
    exact g
  · rw [List.getElem?_set_ne (fun e => hi e.symm)] at ha hb
    exact h.2 i a b ha hb
theorem map_setQ (f : MsD → MsG) : ∀ (l : List MsD) (q : Nat) (y : MsD), (l.set q y).map f = (l.map f).set q (f y)
  | [], q, y => rfl
  | x :: r, 0, y => rfl
  | x :: r, q + 1, y => by simp [map_setQ f r q y]

theorem spl_both {l l1 : List MsD} {L L2 : List MsG} {pl k xx er er2 : Int} (hal : AlikeG (l.map MsD.gd) L)
    (h1 : (er = 220 ∧ l1 = l ∧ (pl < 0 ∨ (l.length : Int) ≤ pl)) ∨ ∃ (q : Nat) (m : MsD), pl = (q : Int) ∧ l[q]? = some m ∧ er = spE m k xx ∧ l1 = if spE m k xx = 0 then l.set q (spM m k.toNat xx) else l)
    (h2 : (er2 = 220 ∧ L2 = L ∧ (pl < 0 ∨ (L.length : Int) ≤ pl)) ∨ ∃ (q : Nat) (m : MsG) (u : Value), pl = (q : Int) ∧ L[q]? = some m ∧ er2 = gE m k xx ∧ L2 = if gE m k xx = 0 then L.set q ⟨m.f, m.t, u, m.bs.set k.toNat (bits .xor .u8 (m.bs.getD k.toNat 0) xx), true⟩ else L) : er = er2 ∧ AlikeG (l1.map MsD.gd) L2 ∧ l1.length ≤ l.length + 1 := by
  have hLl : L.length = l.length := by have := hal.1; simpa using this.symm
  rcases h1 with ⟨rfl, rfl, hp⟩ | ⟨q, m, hq, hm, rfl, rfl⟩
  · rcases h2 with ⟨rfl, rfl, _⟩ | ⟨q, m, u, hq, hm, _⟩
    · exact ⟨rfl, hal, by omega⟩
    · have := (List.getElem?_eq_some_iff.1 hm).1
      omega
  · have := (List.getElem?_eq_some_iff.1 hm).1
    rcases h2 with ⟨_, _, hp⟩ | ⟨q2, m2, u, hq2, hm2, rfl, rfl⟩
    · omega
    · obtain rfl : q2 = q := by omega
      obtain ⟨e1, e2, e3, e4⟩ := hal.2 q2 m.gd m2 (by rw [List.getElem?_map, hm]; rfl) hm2
      have e3' : m.bs = m2.bs := e3
      have e4' : m.sp = m2.sp := e4
      have hE : spE m k xx = gE m2 k xx := by unfold spE gE; rw [e3', e4']
      rw [← hE]
      by_cases h0 : spE m k xx = 0
      · rw [if_pos h0, if_pos h0, map_setQ]
        refine ⟨rfl, hal.setQ q2 ⟨e1, e2, ?_, rfl⟩, by simp⟩
        show m.bs.set _ _ = m2.bs.set _ _
        rw [e3']
      · rw [if_neg h0, if_neg h0]
        exact ⟨rfl, hal, by omega⟩

set_option maxHeartbeats 4000000 in
theorem does_spoil (hp1 : p ≤ 1) (h : Pq W own p R) (hal : AlikeG (R.l.map MsD.gd) R.L) (hkt : AlikeG R.K R.T) (on f t : Int) (bv : Value) (pl k xx : Int) (x0 : 0 ≤ xx) (x1 : xx ≤ 255) :
    Calls Tryd.prog 8 #[.pointer (some ⟨R.x, 0, none⟩), .agg #[.int .i64 4, .int .i64 on, .int .i8 f, .int .i8 t, bv, .int .i64 pl, .int .i64 k, .int .u8 xx]] W fun e w' => e = .returned (.bool true) ∧ Hid (DoQ W w' own p R) := by
  obtain ⟨bx, hbx⟩ : ∃ b, b = W.heap.size := ⟨_, rfl⟩
  obtain ⟨W0, hW0⟩ : ∃ W0, W0 = W.alloc (.cells #[.int .i64 4, .int .i64 on, .int .i8 f, .int .i8 t, bv, .int .i64 pl, .int .i64 k, .int .u8 xx] 41) := ⟨_, rfl⟩
  obtain ⟨own0, hown0⟩ : ∃ o, o = upQ own W.heap.size 999 := ⟨_, rfl⟩
  have H0 : Hid (Pq W0 own0 p R ∧ BoxQ W0 bx 4 on f t bv pl k xx ∧ own0 bx / 10 ≠ p) := by
    rw [hW0, hbx, hown0]
    have hk : Kept W (W.alloc (.cells #[.int .i64 4, .int .i64 on, .int .i8 f, .int .i8 t, bv, .int .i64 pl, .int .i64 k, .int .u8 xx] 41)) (fun _ => False) := (Kept.refl _ _).alloc _
    exact ⟨h.keep hk (fun _ _ e => e.elim) (fun k hkl _ => upQ_old hkl), heap_alloc_new _ _, by rw [upQ_new (Nat.le_refl _)]; omega⟩
  have HOut : Hid (∀ w', DoQ W0 w' own0 p R → DoQ W w' own p R) := by
    rw [hW0, hown0]
    intro w' hq
    obtain ⟨own', R', h1, h2, h3, h4, h5, h6, h7⟩ := hq
    exact ⟨own', R', h1, h2, h3, h4, h5, h6, Stp.trans (own1 := upQ own W.heap.size 999) ⟨(Kept.refl W _).alloc _, fun k hkl _ => upQ_old hkl⟩ h7⟩
  have HST : Hid (Stp W W0 own own0 p) := by rw [hW0, hown0]; exact ⟨(Kept.refl W _).alloc _, fun k hkl _ => upQ_old hkl⟩
  have HW0 : Hid (W.alloc (.cells #[.int .i64 4, .int .i64 on, .int .i8 f, .int .i8 t, bv, .int .i64 pl, .int .i64 k, .int .u8 xx] 41) = W0) := hW0.symm
  have HBx : Hid (W.heap.size = bx) := hbx.symm
  have k0 : W0.cell? ⟨bx, 0, none⟩ = some (.int .i64 4) := by rw [cell_of_row _ _ 0 _ _ _ H0.out.2.1]; rfl
  have zb : bx < W0.heap.size := lt_of_block H0.out.2.1
  clear h hW0 hbx hown0
  have HP : Hid (AlikeG (R.l.map MsD.gd) R.L ∧ AlikeG R.K R.T) := ⟨hal, hkt⟩
  clear hal hkt
  have HD : Hid _ := Pq.spl (H0.out.1.new ((Kept.refl _ _).drewN 1)) pl k xx x0 x1
  go_enter Tryd.func8, Tryd.ntmps8
  go_upto_region 1 with fail
  rw [HW0.out, HBx.out]
  clear HW0 HBx
  go_wp2_with fail
  refine wp_region_held_drew (S := (fun V => BxQ V R bx f t bv pl k xx)) (by kernel_rfl) ?_ (fun hHeld => ?_)
  · exact BxQ.of (H0.out.1.new ((Kept.refl _ _).drewN 1)) H0.out.2.1
  refine wpAnyH_take (i := 0) (oi := { dst := some 185, op := Op.move (Operand.tmp 0), type := 25, pos := "law.go:86", after := #[], guard := none }) (v := ?_) rfl (by kernel_rfl) (by kernel_rfl) (by kernel_rfl) (fun _ _ _ h => h) (Or.inl ⟨by rfl, ?_⟩) (by assumption) ?_
  rotate_left
  · (intro w hSw; (try dsimp only at hSw); obtain ⟨x0, x1, x2, x3, o2, o3, o4, o5, o6, o7, zx, zb⟩ := hSw; go_simp) <;> with_reducible rfl
  try simp only [Act.put, List.setIfInBounds_toArray, List.set_cons_zero, List.set_cons_succ]
  refine wpAnyH_take (i := 1) (oi := { dst := some 186, op := Op.nilCheck (Operand.tmp 185), type := 0, pos := "law.go:86", after := #[{ on := 0, ground := Ground.data }], guard := none }) (v := ?_) rfl (by kernel_rfl) (by kernel_rfl) (by kernel_rfl) (fun _ _ _ h => h) (Or.inl ⟨by rfl, ?_⟩) (by assumption) ?_
  rotate_left
  · (intro w hSw; (try dsimp only at hSw); obtain ⟨x0, x1, x2, x3, o2, o3, o4, o5, o6, o7, zx, zb⟩ := hSw; go_simp) <;> with_reducible rfl
  try simp only [Act.put, List.setIfInBounds_toArray, List.set_cons_zero, List.set_cons_succ]
  refine wpAnyH_take (i := 2) (oi := { dst := some 187, op := Op.fieldAddr 37 (Operand.tmp 186) 0, type := 0, pos := "law.go:86", after := #[{ on := 1, ground := Ground.data }], guard := none }) (v := ?_) rfl (by kernel_rfl) (by kernel_rfl) (by kernel_rfl) (fun _ _ _ h => h) (Or.inl ⟨by rfl, ?_⟩) (by assumption) ?_
  rotate_left
  · (intro w hSw; (try dsimp only at hSw); obtain ⟨x0, x1, x2, x3, o2, o3, o4, o5, o6, o7, zx, zb⟩ := hSw; go_simp) <;> with_reducible rfl
  try simp only [Act.put, List.setIfInBounds_toArray, List.set_cons_zero, List.set_cons_succ]
  refine wpAnyH_take (i := 3) (oi := { dst := some 188, op := Op.load 28 (Operand.tmp 187), type := 28, pos := "law.go:86", after := #[{ on := 2, ground := Ground.data }], guard := none }) (v := ?_) rfl (by kernel_rfl) (by kernel_rfl) (by kernel_rfl) (fun _ _ _ h => h) (Or.inl ⟨by rfl, ?_⟩) (by assumption) ?_
  rotate_left
  · (intro w hSw; (try dsimp only at hSw); obtain ⟨x0, x1, x2, x3, o2, o3, o4, o5, o6, o7, zx, zb⟩ := hSw; go_simp) <;> with_reducible rfl
  try simp only [Act.put, List.setIfInBounds_toArray, List.set_cons_zero, List.set_cons_succ]
  refine wpAnyH_take (i := 4) (oi := { dst := some 189, op := Op.fieldAddr 41 (Operand.tmp 3) 5, type := 0, pos := "law.go:86", after := #[], guard := none }) (v := ?_) rfl (by kernel_rfl) (by kernel_rfl) (by kernel_rfl) (fun _ _ _ h => h) (Or.inl ⟨by rfl, ?_⟩) (by assumption) ?_
  rotate_left
  · (intro w hSw; (try dsimp only at hSw); obtain ⟨x0, x1, x2, x3, o2, o3, o4, o5, o6, o7, zx, zb⟩ := hSw; go_simp) <;> with_reducible rfl
  try simp only [Act.put, List.setIfInBounds_toArray, List.set_cons_zero, List.set_cons_succ]
  refine wpAnyH_take (i := 5) (oi := { dst := some 190, op := Op.load 3 (Operand.tmp 189), type := 3, pos := "law.go:86", after := #[{ on := 4, ground := Ground.data }], guard := none }) (v := ?_) rfl (by kernel_rfl) (by kernel_rfl) (by kernel_rfl) (fun _ _ _ h => h) (Or.inl ⟨by rfl, ?_⟩) (by assumption) ?_
  rotate_left
  · (intro w hSw; (try dsimp only at hSw); obtain ⟨x0, x1, x2, x3, o2, o3, o4, o5, o6, o7, zx, zb⟩ := hSw; go_simp) <;> with_reducible rfl
  try simp only [Act.put, List.setIfInBounds_toArray, List.set_cons_zero, List.set_cons_succ]
  refine wpAnyH_take (i := 6) (oi := { dst := some 191, op := Op.fieldAddr 41 (Operand.tmp 3) 6, type := 0, pos := "law.go:86", after := #[], guard := none }) (v := ?_) rfl (by kernel_rfl) (by kernel_rfl) (by kernel_rfl) (fun _ _ _ h => h) (Or.inl ⟨by rfl, ?_⟩) (by assumption) ?_
  rotate_left
  · (intro w hSw; (try dsimp only at hSw); obtain ⟨x0, x1, x2, x3, o2, o3, o4, o5, o6, o7, zx, zb⟩ := hSw; go_simp) <;> with_reducible rfl
  try simp only [Act.put, List.setIfInBounds_toArray, List.set_cons_zero, List.set_cons_succ]
  refine wpAnyH_take (i := 7) (oi := { dst := some 192, op := Op.load 3 (Operand.tmp 191), type := 3, pos := "law.go:86", after := #[{ on := 6, ground := Ground.data }], guard := none }) (v := ?_) rfl (by kernel_rfl) (by kernel_rfl) (by kernel_rfl) (fun _ _ _ h => h) (Or.inl ⟨by rfl, ?_⟩) (by assumption) ?_
  rotate_left
  · (intro w hSw; (try dsimp only at hSw); obtain ⟨x0, x1, x2, x3, o2, o3, o4, o5, o6, o7, zx, zb⟩ := hSw; go_simp) <;> with_reducible rfl
  try simp only [Act.put, List.setIfInBounds_toArray, List.set_cons_zero, List.set_cons_succ]
  refine wpAnyH_take (i := 8) (oi := { dst := some 193, op := Op.fieldAddr 41 (Operand.tmp 3) 7, type := 0, pos := "law.go:86", after := #[], guard := none }) (v := ?_) rfl (by kernel_rfl) (by kernel_rfl) (by kernel_rfl) (fun _ _ _ h => h) (Or.inl ⟨by rfl, ?_⟩) (by assumption) ?_
  rotate_left
  · (intro w hSw; (try dsimp only at hSw); obtain ⟨x0, x1, x2, x3, o2, o3, o4, o5, o6, o7, zx, zb⟩ := hSw; go_simp) <;> with_reducible rfl
  try simp only [Act.put, List.setIfInBounds_toArray, List.set_cons_zero, List.set_cons_succ]
  refine wpAnyH_take (i := 9) (oi := { dst := some 194, op := Op.load 5 (Operand.tmp 193), type := 5, pos := "law.go:86", after := #[{ on := 8, ground := Ground.data }], guard := none }) (v := ?_) rfl (by kernel_rfl) (by kernel_rfl) (by kernel_rfl) (fun _ _ _ h => h) (Or.inl ⟨by rfl, ?_⟩) (by assumption) ?_
  rotate_left
  · (intro w hSw; (try dsimp only at hSw); obtain ⟨x0, x1, x2, x3, o2, o3, o4, o5, o6, o7, zx, zb⟩ := hSw; go_simp) <;> with_reducible rfl
  try simp only [Act.put, List.setIfInBounds_toArray, List.set_cons_zero, List.set_cons_succ]
  refine wpAnyH_take (i := 11) (oi := { dst := some 196, op := Op.move (Operand.tmp 0), type := 25, pos := "law.go:86", after := #[], guard := none }) (v := ?_) rfl (by kernel_rfl) (by kernel_rfl) (by kernel_rfl) (fun _ _ _ h => h) (Or.inl ⟨by rfl, ?_⟩) (by assumption) ?_
  rotate_left
  · (intro w hSw; (try dsimp only at hSw); obtain ⟨x0, x1, x2, x3, o2, o3, o4, o5, o6, o7, zx, zb⟩ := hSw; go_simp) <;> with_reducible rfl
  try simp only [Act.put, List.setIfInBounds_toArray, List.set_cons_zero, List.set_cons_succ]
  refine wpAnyH_take (i := 12) (oi := { dst := some 197, op := Op.nilCheck (Operand.tmp 196), type := 0, pos := "law.go:86", after := #[{ on := 11, ground := Ground.data }], guard := none }) (v := ?_) rfl (by kernel_rfl) (by kernel_rfl) (by kernel_rfl) (fun _ _ _ h => h) (Or.inl ⟨by rfl, ?_⟩) (by assumption) ?_
  rotate_left
  · (intro w hSw; (try dsimp only at hSw); obtain ⟨x0, x1, x2, x3, o2, o3, o4, o5, o6, o7, zx, zb⟩ := hSw; go_simp) <;> with_reducible rfl
  try simp only [Act.put, List.setIfInBounds_toArray, List.set_cons_zero, List.set_cons_succ]
  refine wpAnyH_take (i := 13) (oi := { dst := some 198, op := Op.fieldAddr 37 (Operand.tmp 197) 1, type := 0, pos := "law.go:86", after := #[{ on := 12, ground := Ground.data }], guard := none }) (v := ?_) rfl (by kernel_rfl) (by kernel_rfl) (by kernel_rfl) (fun _ _ _ h => h) (Or.inl ⟨by rfl, ?_⟩) (by assumption) ?_
  rotate_left
  · (intro w hSw; (try dsimp only at hSw); obtain ⟨x0, x1, x2, x3, o2, o3, o4, o5, o6, o7, zx, zb⟩ := hSw; go_simp) <;> with_reducible rfl
  try simp only [Act.put, List.setIfInBounds_toArray, List.set_cons_zero, List.set_cons_succ]
  refine wpAnyH_take (i := 14) (oi := { dst := some 199, op := Op.load 32 (Operand.tmp 198), type := 32, pos := "law.go:86", after := #[{ on := 13, ground := Ground.data }], guard := none }) (v := ?_) rfl (by kernel_rfl) (by kernel_rfl) (by kernel_rfl) (fun _ _ _ h => h) (Or.inl ⟨by rfl, ?_⟩) (by assumption) ?_
  rotate_left
  · (intro w hSw; (try dsimp only at hSw); obtain ⟨x0, x1, x2, x3, o2, o3, o4, o5, o6, o7, zx, zb⟩ := hSw; go_simp) <;> with_reducible rfl
  try simp only [Act.put, List.setIfInBounds_toArray, List.set_cons_zero, List.set_cons_succ]
  refine wpAnyH_take (i := 15) (oi := { dst := some 200, op := Op.fieldAddr 41 (Operand.tmp 3) 5, type := 0, pos := "law.go:86", after := #[], guard := none }) (v := ?_) rfl (by kernel_rfl) (by kernel_rfl) (by kernel_rfl) (fun _ _ _ h => h) (Or.inl ⟨by rfl, ?_⟩) (by assumption) ?_
  rotate_left
  · (intro w hSw; (try dsimp only at hSw); obtain ⟨x0, x1, x2, x3, o2, o3, o4, o5, o6, o7, zx, zb⟩ := hSw; go_simp) <;> with_reducible rfl
  try simp only [Act.put, List.setIfInBounds_toArray, List.set_cons_zero, List.set_cons_succ]
  refine wpAnyH_take (i := 16) (oi := { dst := some 201, op := Op.load 3 (Operand.tmp 200), type := 3, pos := "law.go:86", after := #[{ on := 15, ground := Ground.data }], guard := none }) (v := ?_) rfl (by kernel_rfl) (by kernel_rfl) (by kernel_rfl) (fun _ _ _ h => h) (Or.inl ⟨by rfl, ?_⟩) (by assumption) ?_
  rotate_left
  · (intro w hSw; (try dsimp only at hSw); obtain ⟨x0, x1, x2, x3, o2, o3, o4, o5, o6, o7, zx, zb⟩ := hSw; go_simp) <;> with_reducible rfl
  try simp only [Act.put, List.setIfInBounds_toArray, List.set_cons_zero, List.set_cons_succ]
  refine wpAnyH_take (i := 17) (oi := { dst := some 202, op := Op.fieldAddr 41 (Operand.tmp 3) 6, type := 0, pos := "law.go:86", after := #[], guard := none }) (v := ?_) rfl (by kernel_rfl) (by kernel_rfl) (by kernel_rfl) (fun _ _ _ h => h) (Or.inl ⟨by rfl, ?_⟩) (by assumption) ?_
  rotate_left
  · (intro w hSw; (try dsimp only at hSw); obtain ⟨x0, x1, x2, x3, o2, o3, o4, o5, o6, o7, zx, zb⟩ := hSw; go_simp) <;> with_reducible rfl
  try simp only [Act.put, List.setIfInBounds_toArray, List.set_cons_zero, List.set_cons_succ]
  refine wpAnyH_take (i := 18) (oi := { dst := some 203, op := Op.load 3 (Operand.tmp 202), type := 3, pos := "law.go:86", after := #[{ on := 17, ground := Ground.data }], guard := none }) (v := ?_) rfl (by kernel_rfl) (by kernel_rfl) (by kernel_rfl) (fun _ _ _ h => h) (Or.inl ⟨by rfl, ?_⟩) (by assumption) ?_
  rotate_left
  · (intro w hSw; (try dsimp only at hSw); obtain ⟨x0, x1, x2, x3, o2, o3, o4, o5, o6, o7, zx, zb⟩ := hSw; go_simp) <;> with_reducible rfl
  try simp only [Act.put, List.setIfInBounds_toArray, List.set_cons_zero, List.set_cons_succ]
  refine wpAnyH_take (i := 19) (oi := { dst := some 204, op := Op.fieldAddr 41 (Operand.tmp 3) 7, type := 0, pos := "law.go:86", after := #[], guard := none }) (v := ?_) rfl (by kernel_rfl) (by kernel_rfl) (by kernel_rfl) (fun _ _ _ h => h) (Or.inl ⟨by rfl, ?_⟩) (by assumption) ?_
  rotate_left
  · (intro w hSw; (try dsimp only at hSw); obtain ⟨x0, x1, x2, x3, o2, o3, o4, o5, o6, o7, zx, zb⟩ := hSw; go_simp) <;> with_reducible rfl
  try simp only [Act.put, List.setIfInBounds_toArray, List.set_cons_zero, List.set_cons_succ]
  refine wpAnyH_take (i := 20) (oi := { dst := some 205, op := Op.load 5 (Operand.tmp 204), type := 5, pos := "law.go:86", after := #[{ on := 19, ground := Ground.data }], guard := none }) (v := ?_) rfl (by kernel_rfl) (by kernel_rfl) (by kernel_rfl) (fun _ _ _ h => h) (Or.inl ⟨by rfl, ?_⟩) (by assumption) ?_
  rotate_left
  · (intro w hSw; (try dsimp only at hSw); obtain ⟨x0, x1, x2, x3, o2, o3, o4, o5, o6, o7, zx, zb⟩ := hSw; go_simp) <;> with_reducible rfl
  try simp only [Act.put, List.setIfInBounds_toArray, List.set_cons_zero, List.set_cons_succ]
  refine wpAnyH_ready (rs := [10]) (by kernel_rfl) (by simp) ?_
  refine AllReadyH.cons (o := { dst := some 195, op := Op.call { callee := Callee.value (Operand.func 24), args := #[Operand.tmp 188, Operand.tmp 190, Operand.tmp 192, Operand.tmp 194], argTypes := #[28, 3, 3, 5] }, type := 29, pos := "law.go:86", after := #[{ on := 3, ground := Ground.data }, { on := 5, ground := Ground.data }, { on := 7, ground := Ground.data }, { on := 9, ground := Ground.data }], guard := none }) rfl (fun K hK => ?_) AllReadyH.nil
  go_simp
  refine Calls.mono HD.out ?_
  rintro _ w1 ⟨er, own1, v1, l1, rfl, hq1, hs1, hc1⟩
  have hs1 := (Stp.new (own := own0) (p := p) ((Kept.refl W0 _).drewN 1)).trans hs1
  have HB1 := H0.out.2.1.stp H0.out.2.2 hs1
  have H1 : Hid ((Pq w1 own1 p { R with v := v1, l := l1 } ∧ BoxQ w1 bx 4 on f t bv pl k xx ∧ own1 bx / 10 ≠ p) ∧ Stp W0 w1 own0 own1 p) := ⟨⟨hq1, HB1⟩, hs1⟩
  have HC1 : Hid _ := hc1
  have HD2 : Hid _ := Pq.rspl hq1 pl k xx
  have S1 : BxQ w1 R bx f t bv pl k xx := (BxQ.of hq1 HB1.1).re rfl rfl rfl rfl rfl
  clear hq1 hs1 hc1 HB1 hHeld
  refine hK.out _ _ S1 (fun hHeld => ?_)
  clear hK K
  refine wpAnyH_ready (rs := [21]) (by kernel_rfl) (by simp) ?_
  refine AllReadyH.cons (o := { dst := some 206, op := Op.call { callee := Callee.value (Operand.func 25), args := #[Operand.tmp 199, Operand.tmp 201, Operand.tmp 203, Operand.tmp 205], argTypes := #[32, 3, 3, 5] }, type := 29, pos := "law.go:86", after := #[{ on := 14, ground := Ground.data }, { on := 16, ground := Ground.data }, { on := 18, ground := Ground.data }, { on := 20, ground := Ground.data }, { on := 10, ground := Ground.chain }], guard := none }) rfl (fun K hK => ?_) AllReadyH.nil
  go_simp
  refine Calls.mono HD2.out ?_
  rintro _ w2 ⟨er2, own2, V2, L2, rfl, hq2, hs2, hc2⟩
  have HB2 := H1.out.1.2.1.stp H1.out.1.2.2 hs2
  have H2 : Hid (Pq w2 own2 p { R with v := v1, l := l1, V := V2, L := L2 } ∧ Stp W0 w2 own0 own2 p) := ⟨hq2, H1.out.2.trans hs2⟩
  obtain ⟨hee, hal2, hll2⟩ := spl_both HP.out.1 HC1.out hc2
  subst hee
  have HE2 : Hid (AlikeG (l1.map MsD.gd) L2 ∧ l1.length ≤ R.l.length + 1) := ⟨hal2, hll2⟩
  have S2 : BxQ w2 R bx f t bv pl k xx := (BxQ.of hq2 HB2.1).re rfl rfl rfl rfl rfl
  clear hq2 hs2 hc2 HB2 hHeld hal2 hll2
  refine hK.out _ _ S2 (fun hHeld => ?_)
  clear hK K
  refine wpAnyH_take (i := 22) (oi := { dst := some 207, op := Op.binOp BinOp.eql 29 (Operand.tmp 195) (Operand.tmp 206) 29, type := 4, pos := "law.go:86", after := #[{ on := 10, ground := Ground.data }, { on := 21, ground := Ground.data }], guard := none }) (v := ?_) rfl (by kernel_rfl) (by kernel_rfl) (by kernel_rfl) (fun _ _ _ h => h) (Or.inl ⟨by rfl, ?_⟩) (by assumption) ?_
  rotate_left
  · (intro w hSw; (try dsimp only at hSw); obtain ⟨x0, x1, x2, x3, o2, o3, o4, o5, o6, o7, zx, zb⟩ := hSw; go_simp) <;> with_reducible rfl
  try simp only [Act.put, List.setIfInBounds_toArray, List.set_cons_zero, List.set_cons_succ]
  refine wpAnyH_take (i := 23) (oi := { dst := some 4, op := Op.assign (Operand.tmp 207), type := 4, pos := "law.go:86", after := #[{ on := 22, ground := Ground.data }, { on := 21, ground := Ground.chain }, { on := 0, ground := Ground.phase }, { on := 1, ground := Ground.phase }, { on := 2, ground := Ground.phase }, { on := 3, ground := Ground.phase }, { on := 4, ground := Ground.phase }, { on := 5, ground := Ground.phase }, { on := 6, ground := Ground.phase }, { on := 7, ground := Ground.phase }, { on := 8, ground := Ground.phase }, { on := 9, ground := Ground.phase }, { on := 10, ground := Ground.phase }, { on := 11, ground := Ground.phase }, { on := 12, ground := Ground.phase }, { on := 13, ground := Ground.phase }, { on := 14, ground := Ground.phase }, { on := 15, ground := Ground.phase }, { on := 16, ground := Ground.phase }, { on := 17, ground := Ground.phase }, { on := 18, ground := Ground.phase }, { on := 19, ground := Ground.phase }, { on := 20, ground := Ground.phase }, { on := 21, ground := Ground.phase }, { on := 22, ground := Ground.phase }], guard := none }) (v := ?_) rfl (by kernel_rfl) (by kernel_rfl) (by kernel_rfl) (fun _ _ _ h => h) (Or.inl ⟨by rfl, ?_⟩) (by assumption) ?_
  rotate_left
  · (intro w hSw; (try dsimp only at hSw); obtain ⟨x0, x1, x2, x3, o2, o3, o4, o5, o6, o7, zx, zb⟩ := hSw; go_simp) <;> with_reducible rfl
  try simp only [Act.put, List.setIfInBounds_toArray, List.set_cons_zero, List.set_cons_succ]
  refine wpAnyH_done (by kernel_rfl) ?_ _
  have hee : (er == er) = true := by simp
  have HE : Hid (DoQ W0 w2 own0 p R) := ⟨own2, _, H2.out.1, HE2.out.1, HP.out.2, rfl, HE2.out.2, by show R.K.length ≤ _; omega, H2.out.2⟩
  clear hHeld
  go_wp2
  go_ret
  exact ⟨rfl, HOut.out _ HE.out⟩

theorem does_else (hp1 : p ≤ 1) (h : Pq W own p R) (hal : AlikeG (R.l.map MsD.gd) R.L) (hkt : AlikeG R.K R.T) (kd on f t : Int) (bv : Value) (pl k xx : Int) (h1 : kd ≠ 1) (h2 : kd ≠ 2) (h3 : kd ≠ 3) (h4 : kd ≠ 4) (h5 : kd ≠ 5) :
    Calls Tryd.prog 8 #[.pointer (some ⟨R.x, 0, none⟩), .agg #[.int .i64 kd, .int .i64 on, .int .i8 f, .int .i8 t, bv, .int .i64 pl, .int .i64 k, .int .u8 xx]] W fun e w' => e = .returned (.bool true) ∧ Hid (DoQ W w' own p R) := by
  have HE : Hid (DoQ W (W.alloc (.cells #[.int .i64 kd, .int .i64 on, .int .i8 f, .int .i8 t, bv, .int .i64 pl, .int .i64 k, .int .u8 xx] 41)) own p R) := ⟨own, R, h.new ((Kept.refl _ _).alloc _), hal, hkt, rfl, by omega, by omega, Stp.new ((Kept.refl _ _).alloc _)⟩
  have d1 : (kd == 1) = false := by simpa using h1
  have d2 : (kd == 2) = false := by simpa using h2
  have d3 : (kd == 3) = false := by simpa using h3
  have d4 : (kd == 4) = false := by simpa using h4
  have d5 : (kd == 5) = false := by simpa using h5
  clear h hal hkt
  go_enter Tryd.func8, Tryd.ntmps8
  go_wp2
  go_ret
  exact ⟨rfl, HE.out⟩

end
end Go.Proofs.YtghngopclhhoeaaDoor
