/- LinkPlays' does: Take. -/
import Derived.Test.YtghngopclhhoeaaDoorLpRJ
import Derived.Deep.CutRange
namespace Go.Proofs.YtghngopclhhoeaaDoor
open Go.RowKit
set_option maxRecDepth 8000
set_option linter.unusedSimpArgs false
set_option linter.unusedVariables false

section
variable {W : World} {own : Nat → Nat} {p : Nat} {R : PlR}
/-- What Take left: the box b holds what was taken. -/
abbrev TkA (l l1 : List MsD) (pl er : Int) (y : MsG) : Prop := (er = 220 ∧ l1 = l ∧ y = zeroM ∧ (pl < 0 ∨ (l.length : Int) ≤ pl)) ∨ ∃ (A B : List MsD) (x : MsD), pl = (A.length : Int) ∧ l = A ++ x :: B ∧ l1 = A ++ B ∧ y = x.gd ∧ er = 0

abbrev TkR (L L2 : List MsG) (pl er2 : Int) (y2 : MsG) : Prop := (er2 = 220 ∧ L2 = L ∧ y2 = zeroM ∧ (pl < 0 ∨ (L.length : Int) ≤ pl)) ∨ ∃ (A A' B : List MsG) (x : MsG), pl = (A.length : Int) ∧ L = A ++ x :: B ∧ L2 = A' ++ B ∧ AlikeG A A' ∧ y2 = x ∧ er2 = 0
/-- A box of a message: nobody's, made behind W0. -/
structure BXm (W0 V : World) (own : Nat → Nat) (p b : Nat) (y : MsG) : Prop where
  row : V.heap[b]? = some (.cells y.cells.toArray 72 (0, 0))
  no : own b / 10 ≠ p
  hi : W0.heap.size ≤ b
theorem BXm.stp {W0 V V' : World} {own own' : Nat → Nat} {b : Nat} {y : MsG} (h : BXm W0 V own p b y) (hs : Stp V V' own own' p) : BXm W0 V' own' p b y := ⟨hs.kept.heap h.row h.no, by rw [hs.old _ (lt_of_block h.row) h.no]; exact h.no, h.hi⟩
theorem BXm.up {W0 V V' : World} {own : Nat → Nat} {b c : Nat} {y : MsG} (h : BXm W0 V own p b y) (hk : Kept V V' (fun _ => False)) : BXm W0 V' (upQ own V.heap.size c) p b y := ⟨hk.heap h.row id, by rw [upQ_old (lt_of_block h.row)]; exact h.no, h.hi⟩
theorem BXm.new {W0 V V' : World} {own : Nat → Nat} {b : Nat} {y : MsG} (h : BXm W0 V own p b y) (hk : Kept V V' (fun _ => False)) : BXm W0 V' own p b y := ⟨hk.heap h.row id, h.no, h.hi⟩
theorem BXm.box {W0 V V' : World} {own : Nat → Nat} {b c : Nat} {y : MsG} (h : BXm W0 V own p b y) (hk : Kept V V' (fun k => k = c)) (hc : b ≠ c) : BXm W0 V' own p b y := ⟨hk.heap h.row hc, h.no, h.hi⟩

/-- What the store of a kept message reads. -/
structure SbQ (V : World) (x b : Nat) (yf yt : Int) (yv : Value) (ysp : Bool) : Prop where
  b0 : V.cell? ⟨b, 0, none⟩ = some (.int .i8 yf)
  b1 : V.cell? ⟨b, 1, none⟩ = some (.int .i8 yt)
  b2 : V.cell? ⟨b, 2, none⟩ = some yv
  b3 : V.cell? ⟨b, 3, none⟩ = some (.bool ysp)
  zb : b < V.heap.size
  zx : x < V.heap.size
theorem SbQ.of {W0 V : World} {own : Nat → Nat} {b x : Nat} {y : MsG} (h : BXm W0 V own p b y) (hx : x < V.heap.size) : SbQ V x b y.f y.t y.v y.sp := by
  obtain ⟨b0, b1, b2, b3, b4⟩ := boxM h.row
  exact ⟨b0, b1, b2, b3, b4, hx⟩
theorem SbQ.kept {V V' : World} {S : Nat → Prop} {x b : Nat} {yf yt : Int} {yv : Value} {ysp : Bool} (h : SbQ V x b yf yt yv ysp) (hk : Kept V V' S) (hb : ¬ S b) : SbQ V' x b yf yt yv ysp :=
  ⟨hk.cell h.b0 hb, hk.cell h.b1 hb, hk.cell h.b2 hb, hk.cell h.b3 hb, Nat.lt_of_lt_of_le h.zb hk.size, Nat.lt_of_lt_of_le h.zx hk.size⟩

set_option maxHeartbeats 16000000 in
theorem does_take (hp1 : p ≤ 1) (h : Pq W own p R) (hal : AlikeG (R.l.map MsD.gd) R.L) (hkt : AlikeG R.K R.T) (hl : R.l.length ≤ 99999998) (hkl : R.K.length ≤ 99999998) (hgo : own 0 / 10 ≠ p) (ht : Tab W) (hg0 : 0 < W.heap.size) (on f t : Int) (bv : Value) (pl k xx : Int) :
    Calls Tryd.prog 8 #[.pointer (some ⟨R.x, 0, none⟩), .agg #[.int .i64 2, .int .i64 on, .int .i8 f, .int .i8 t, bv, .int .i64 pl, .int .i64 k, .int .u8 xx]] W fun e w' => e = .returned (.bool true) ∧ Hid (DoQ W w' own p R) := by
  have hLl : R.L.length = R.l.length := by have := hal.1; simpa using this.symm
  have HG : Hid (Tab W ∧ 0 < W.heap.size ∧ own 0 / 10 ≠ p) := ⟨ht, hg0, hgo⟩
  clear ht hg0 hgo
  obtain ⟨bx, hbx⟩ : ∃ b, b = W.heap.size := ⟨_, rfl⟩
  obtain ⟨W0, hW0⟩ : ∃ W0, W0 = W.alloc (.cells #[.int .i64 2, .int .i64 on, .int .i8 f, .int .i8 t, bv, .int .i64 pl, .int .i64 k, .int .u8 xx] 41) := ⟨_, rfl⟩
  obtain ⟨own0, hown0⟩ : ∃ o, o = upQ own W.heap.size 999 := ⟨_, rfl⟩
  have H0 : Hid (Pq W0 own0 p R ∧ BoxQ W0 bx 2 on f t bv pl k xx ∧ own0 bx / 10 ≠ p) := by
    rw [hW0, hbx, hown0]
    have hk : Kept W (W.alloc (.cells #[.int .i64 2, .int .i64 on, .int .i8 f, .int .i8 t, bv, .int .i64 pl, .int .i64 k, .int .u8 xx] 41)) (fun _ => False) := (Kept.refl _ _).alloc _
    exact ⟨h.keep hk (fun _ _ e => e.elim) (fun k hkl _ => upQ_old hkl), heap_alloc_new _ _, by rw [upQ_new (Nat.le_refl _)]; omega⟩
  have HOut : Hid (∀ w', DoQ W0 w' own0 p R → DoQ W w' own p R) := by
    rw [hW0, hown0]
    intro w' hq
    obtain ⟨own', R', h1, h2, h3, h4, h5, h6, h7⟩ := hq
    exact ⟨own', R', h1, h2, h3, h4, h5, h6, Stp.trans (own1 := upQ own W.heap.size 999) ⟨(Kept.refl W _).alloc _, fun k hkl _ => upQ_old hkl⟩ h7⟩
  have HST : Hid (Stp W W0 own own0 p) := by rw [hW0, hown0]; exact ⟨(Kept.refl W _).alloc _, fun k hkl _ => upQ_old hkl⟩
  have HW0 : Hid (W.alloc (.cells #[.int .i64 2, .int .i64 on, .int .i8 f, .int .i8 t, bv, .int .i64 pl, .int .i64 k, .int .u8 xx] 41) = W0) := hW0.symm
  have HBx : Hid (W.heap.size = bx) := hbx.symm
  have k0 : W0.cell? ⟨bx, 0, none⟩ = some (.int .i64 2) := by rw [cell_of_row _ _ 0 _ _ _ H0.out.2.1]; rfl
  have zb : bx < W0.heap.size := lt_of_block H0.out.2.1
  clear h hW0 hbx hown0
  have HP : Hid (AlikeG (R.l.map MsD.gd) R.L ∧ AlikeG R.K R.T) := ⟨hal, hkt⟩
  have HK0 : Hid (TkQ W0 W0 own0 own0 p R bx on f t bv pl k xx zeroM zeroM) := ⟨H0.out.1, Stp.refl _ _ _, H0.out.2.1, H0.out.2.2, zeroM_own _ _, (fun g e => by cases e), (by show 0 ≤ 8192; omega), zeroM_own _ _, (fun g e => by cases e)⟩
  have hzb : bx < W0.heap.size := lt_of_block H0.out.2.1
  clear hal hkt
  have HD : Hid _ := (HK0.out.new ((Kept.refl _ _).drewN 1)).tak (by omega)
  go_enter Tryd.func8, Tryd.ntmps8
  go_upto_region 1 with fail
  rw [HW0.out, HBx.out]
  clear HW0 HBx
  go_upto_region 10 with fail
  go_cut [9, 10] from 68 to 77 (fun vm ve wx => ∃ (b : Nat) (er : Int), vm = .pointer (some ⟨b, 0, none⟩) ∧ ve = .int .i64 er ∧ Hid (∃ own1 v1 l1 y, TkQ W0 wx own0 own1 p { R with v := v1, l := l1 } bx on f t bv pl k xx y zeroM ∧ wx.heap[b]? = some (.cells y.cells.toArray 72 (0, 0)) ∧ own1 b / 10 ≠ p ∧ W0.heap.size ≤ b ∧ TkA R.l l1 pl er y))
  case first =>
    refine wp_region_held_drew (S := (fun V => BxQ V R bx f t bv pl k xx)) (by kernel_rfl) ?_ (fun hHeld => ?_)
    · exact (HK0.out.new ((Kept.refl _ _).drewN 1)).bx'.re rfl rfl rfl rfl rfl
    refine wpAnyH_take (i := 0) (oi := { dst := some 69, op := Op.move (Operand.tmp 0), type := 25, pos := "law.go:68", after := #[], guard := none }) (v := ?_) rfl (by kernel_rfl) (by kernel_rfl) (by kernel_rfl) (fun _ _ _ h => h) (Or.inl ⟨by rfl, ?_⟩) (by assumption) ?_
    rotate_left
    · (intro w hSw; (try dsimp only at hSw); obtain ⟨x0, x1, x2, x3, o2, o3, o4, o5, o6, o7, zx, zb⟩ := hSw; go_simp) <;> with_reducible rfl
    try simp only [Act.put, List.setIfInBounds_toArray, List.set_cons_zero, List.set_cons_succ]
    refine wpAnyH_take (i := 1) (oi := { dst := some 70, op := Op.nilCheck (Operand.tmp 69), type := 0, pos := "law.go:68", after := #[{ on := 0, ground := Ground.data }], guard := none }) (v := ?_) rfl (by kernel_rfl) (by kernel_rfl) (by kernel_rfl) (fun _ _ _ h => h) (Or.inl ⟨by rfl, ?_⟩) (by assumption) ?_
    rotate_left
    · (intro w hSw; (try dsimp only at hSw); obtain ⟨x0, x1, x2, x3, o2, o3, o4, o5, o6, o7, zx, zb⟩ := hSw; go_simp) <;> with_reducible rfl
    try simp only [Act.put, List.setIfInBounds_toArray, List.set_cons_zero, List.set_cons_succ]
    refine wpAnyH_take (i := 2) (oi := { dst := some 71, op := Op.fieldAddr 37 (Operand.tmp 70) 0, type := 0, pos := "law.go:68", after := #[{ on := 1, ground := Ground.data }], guard := none }) (v := ?_) rfl (by kernel_rfl) (by kernel_rfl) (by kernel_rfl) (fun _ _ _ h => h) (Or.inl ⟨by rfl, ?_⟩) (by assumption) ?_
    rotate_left
    · (intro w hSw; (try dsimp only at hSw); obtain ⟨x0, x1, x2, x3, o2, o3, o4, o5, o6, o7, zx, zb⟩ := hSw; go_simp) <;> with_reducible rfl
    try simp only [Act.put, List.setIfInBounds_toArray, List.set_cons_zero, List.set_cons_succ]
    refine wpAnyH_take (i := 3) (oi := { dst := some 72, op := Op.load 28 (Operand.tmp 71), type := 28, pos := "law.go:68", after := #[{ on := 2, ground := Ground.data }], guard := none }) (v := ?_) rfl (by kernel_rfl) (by kernel_rfl) (by kernel_rfl) (fun _ _ _ h => h) (Or.inl ⟨by rfl, ?_⟩) (by assumption) ?_
    rotate_left
    · (intro w hSw; (try dsimp only at hSw); obtain ⟨x0, x1, x2, x3, o2, o3, o4, o5, o6, o7, zx, zb⟩ := hSw; go_simp) <;> with_reducible rfl
    try simp only [Act.put, List.setIfInBounds_toArray, List.set_cons_zero, List.set_cons_succ]
    refine wpAnyH_take (i := 4) (oi := { dst := some 73, op := Op.fieldAddr 41 (Operand.tmp 3) 5, type := 0, pos := "law.go:68", after := #[], guard := none }) (v := ?_) rfl (by kernel_rfl) (by kernel_rfl) (by kernel_rfl) (fun _ _ _ h => h) (Or.inl ⟨by rfl, ?_⟩) (by assumption) ?_
    rotate_left
    · (intro w hSw; (try dsimp only at hSw); obtain ⟨x0, x1, x2, x3, o2, o3, o4, o5, o6, o7, zx, zb⟩ := hSw; go_simp) <;> with_reducible rfl
    try simp only [Act.put, List.setIfInBounds_toArray, List.set_cons_zero, List.set_cons_succ]
    refine wpAnyH_take (i := 5) (oi := { dst := some 74, op := Op.load 3 (Operand.tmp 73), type := 3, pos := "law.go:68", after := #[{ on := 4, ground := Ground.data }], guard := none }) (v := ?_) rfl (by kernel_rfl) (by kernel_rfl) (by kernel_rfl) (fun _ _ _ h => h) (Or.inl ⟨by rfl, ?_⟩) (by assumption) ?_
    rotate_left
    · (intro w hSw; (try dsimp only at hSw); obtain ⟨x0, x1, x2, x3, o2, o3, o4, o5, o6, o7, zx, zb⟩ := hSw; go_simp) <;> with_reducible rfl
    try simp only [Act.put, List.setIfInBounds_toArray, List.set_cons_zero, List.set_cons_succ]
    refine wpAnyH_ready (rs := [6, 10]) (by kernel_rfl) (by simp) ?_
    refine AllReadyH.cons (o := { dst := some 75, op := Op.call { callee := Callee.value (Operand.func 13), args := #[Operand.tmp 72, Operand.tmp 74], argTypes := #[28, 3] }, type := 73, pos := "law.go:68", after := #[{ on := 3, ground := Ground.data }, { on := 5, ground := Ground.data }], guard := none }) rfl (fun K hK => ?_) (AllReadyH.cons (o := { dst := some 9, op := Op.alloc 72, type := 0, pos := "law.go:68", after := #[], guard := none }) rfl (fun K hK => ?_) AllReadyH.nil)
    · go_simp
      refine Calls.mono HD.out ?_
      rintro _ w1 ⟨er, own1, v1, l1, y, rfl, htk, hst, hc⟩
      obtain ⟨ya, yc, hyv⟩ := rowSl htk.yo
      have H1 : Hid (TkQ W0 w1 own0 own1 p { R with v := v1, l := l1 } bx on f t bv pl k xx y zeroM ∧ TkA R.l l1 pl er y) := ⟨htk, hc⟩
      have S1 : BxQ w1 R bx f t bv pl k xx := htk.bx'.re rfl rfl rfl rfl rfl
      have hcs : y.cells.toArray = #[.int .i8 y.f, .int .i8 y.t, .slice ya y.bs.length yc, .bool y.sp] := by rw [← hyv]
      have HYV : Hid (y.v = .slice ya y.bs.length yc) := hyv
      rw [hcs]
      clear htk hst hc hHeld hcs hyv
      refine hK.out _ _ S1 (fun hHeld => ?_)
      clear hK K
      refine wpAnyH_take (i := 7) (oi := { dst := some 68, op := Op.move (Operand.tmp 75), type := 73, pos := "law.go:68", after := #[{ on := 6, ground := Ground.data }], guard := none }) (v := ?_) rfl (by kernel_rfl) (by kernel_rfl) (by kernel_rfl) (fun _ _ _ h => h) (Or.inl ⟨by rfl, ?_⟩) (by assumption) ?_
      rotate_left
      · (intro w hSw; (try dsimp only at hSw); obtain ⟨x0, x1, x2, x3, o2, o3, o4, o5, o6, o7, zx, zb⟩ := hSw; go_simp) <;> with_reducible rfl
      try simp only [Act.put, List.setIfInBounds_toArray, List.set_cons_zero, List.set_cons_succ]
      refine wpAnyH_take (i := 8) (oi := { dst := some 76, op := Op.extract (Operand.tmp 68) 0, type := 72, pos := "law.go:68", after := #[{ on := 7, ground := Ground.data }], guard := none }) (v := ?_) rfl (by kernel_rfl) (by kernel_rfl) (by kernel_rfl) (fun _ _ _ h => h) (Or.inl ⟨by rfl, ?_⟩) (by assumption) ?_
      rotate_left
      · (intro w hSw; (try dsimp only at hSw); obtain ⟨x0, x1, x2, x3, o2, o3, o4, o5, o6, o7, zx, zb⟩ := hSw; go_simp) <;> with_reducible rfl
      try simp only [Act.put, List.setIfInBounds_toArray, List.set_cons_zero, List.set_cons_succ]
      refine wpAnyH_take (i := 9) (oi := { dst := some 77, op := Op.extract (Operand.tmp 68) 1, type := 29, pos := "law.go:68", after := #[{ on := 7, ground := Ground.data }, { on := 11, ground := Ground.gcOnly Departure.lateStores }], guard := none }) (v := ?_) rfl (by kernel_rfl) (by kernel_rfl) (by kernel_rfl) (fun _ _ _ h => h) (Or.inl ⟨by rfl, ?_⟩) (by assumption) ?_
      rotate_left
      · (intro w hSw; (try dsimp only at hSw); obtain ⟨x0, x1, x2, x3, o2, o3, o4, o5, o6, o7, zx, zb⟩ := hSw; go_simp) <;> with_reducible rfl
      try simp only [Act.put, List.setIfInBounds_toArray, List.set_cons_zero, List.set_cons_succ]
      refine wpAnyH_ready (rs := [10]) (by kernel_rfl) (by simp) ?_
      refine AllReadyH.cons (o := { dst := some 9, op := Op.alloc 72, type := 0, pos := "law.go:68", after := #[], guard := none }) rfl (fun K hK => ?_) AllReadyH.nil
      go_simp
      obtain ⟨w2, hw2⟩ : ∃ w2, w2 = w1.alloc (.cells zcM 72) := ⟨_, rfl⟩
      obtain ⟨b, hb⟩ : ∃ b, b = w1.heap.size := ⟨_, rfl⟩
      have H2 : Hid (∃ own2, TkQ W0 w2 own0 own2 p { R with v := v1, l := l1 } bx on f t bv pl k xx y zeroM ∧ w2.heap[b]? = some (.cells zcM 72 (0, 0)) ∧ own2 b / 10 ≠ p ∧ W0.heap.size ≤ b ∧ TkA R.l l1 pl er y) := by
        rw [hw2, hb]
        exact ⟨_, H1.out.1.up hp1 ((Kept.refl _ _).alloc _), heap_alloc_new _ _, by rw [upQ_new (Nat.le_refl _)]; omega, H1.out.1.st.kept.size, H1.out.2⟩
      rw [← hw2, ← hb]
      have S2 : BxQ w2 R bx f t bv pl k xx := by obtain ⟨_, q, _⟩ := H2.out; exact q.bx'.re rfl rfl rfl rfl rfl
      clear hw2 hb H1 hHeld
      refine hK.out _ _ S2 (fun hHeld => ?_)
      clear hK K
      refine wpAnyH_ready (rs := [11]) (by kernel_rfl) (by simp) ?_
      refine AllReadyH.cons (o := { dst := none, op := Op.store 72 (Operand.tmp 9) (Operand.tmp 76), type := 0, pos := "law.go:68", after := #[{ on := 10, ground := Ground.data }, { on := 8, ground := Ground.data }, { on := 6, ground := Ground.chain }, { on := 0, ground := Ground.phase }, { on := 1, ground := Ground.phase }, { on := 2, ground := Ground.phase }, { on := 3, ground := Ground.phase }, { on := 4, ground := Ground.phase }, { on := 5, ground := Ground.phase }, { on := 6, ground := Ground.phase }, { on := 7, ground := Ground.phase }, { on := 8, ground := Ground.phase }, { on := 9, ground := Ground.textOnly Departure.lateStores }, { on := 10, ground := Ground.phase }], guard := none }) rfl (fun K hK => ?_) AllReadyH.nil
      obtain ⟨own2, q1, q2, q3, q4, q5⟩ := H2.out
      have z1 := cell_of_row w2 b 0 _ _ _ q2
      have z2 := cell_of_row w2 b 1 _ _ _ q2
      have z3 := cell_of_row w2 b 2 _ _ _ q2
      have z4 := cell_of_row w2 b 3 _ _ _ q2
      simp only [List.getElem?_toArray, List.getElem?_cons_zero, List.getElem?_cons_succ] at z1 z2 z3 z4
      have u1 := boxF q2 0
      have u2 := boxF q2 1
      have u3 := boxF q2 2
      have u4 := boxF q2 3
      have z5 := lt_of_block q2
      have hbS := boxS q2 y
      rw [HYV.out] at hbS
      go_simp
      obtain ⟨w3, hw3⟩ : ∃ w3, w3 = (((w2.setCell ⟨b, 0, none⟩ (.int .i8 y.f)).setCell ⟨b, 1, none⟩ (.int .i8 y.t)).setCell ⟨b, 2, none⟩ (.slice ya y.bs.length yc)).setCell ⟨b, 3, none⟩ (.bool y.sp) := ⟨_, rfl⟩
      have H3 : Hid (∃ own1 v1 l1 y, TkQ W0 w3 own0 own1 p { R with v := v1, l := l1 } bx on f t bv pl k xx y zeroM ∧ w3.heap[b]? = some (.cells y.cells.toArray 72 (0, 0)) ∧ own1 b / 10 ≠ p ∧ W0.heap.size ≤ b ∧ TkA R.l l1 pl er y) := by
        rw [hw3]
        exact ⟨own2, v1, l1, y, q1.box hbS.2 q3 q4 (by omega), hbS.1, q3, q4, q5⟩
      rw [← hw3]
      have S3 : BxQ w3 R bx f t bv pl k xx := by obtain ⟨_, _, _, _, q, _⟩ := H3.out; exact q.bx'.re rfl rfl rfl rfl rfl
      clear hw3 hbS z1 z2 z3 z4 u1 u2 u3 u4 z5 q1 q2 q3 q4 q5 H2 hHeld
      refine hK.out _ _ S3 (fun hHeld => ?_)
      clear hK K
      refine wpAnyH_take (i := 12) (oi := { dst := some 10, op := Op.assign (Operand.tmp 77), type := 29, pos := "law.go:68", after := #[{ on := 9, ground := Ground.data }, { on := 11, ground := Ground.chain }, { on := 0, ground := Ground.phase }, { on := 1, ground := Ground.phase }, { on := 2, ground := Ground.phase }, { on := 3, ground := Ground.phase }, { on := 4, ground := Ground.phase }, { on := 5, ground := Ground.phase }, { on := 6, ground := Ground.phase }, { on := 7, ground := Ground.phase }, { on := 8, ground := Ground.phase }, { on := 9, ground := Ground.phase }, { on := 10, ground := Ground.phase }, { on := 11, ground := Ground.phase }], guard := none }) (v := ?_) rfl (by kernel_rfl) (by kernel_rfl) (by kernel_rfl) (fun _ _ _ h => h) (Or.inl ⟨by rfl, ?_⟩) (by assumption) ?_
      rotate_left
      · (intro w hSw; (try dsimp only at hSw); obtain ⟨x0, x1, x2, x3, o2, o3, o4, o5, o6, o7, zx, zb⟩ := hSw; go_simp) <;> with_reducible rfl
      try simp only [Act.put, List.setIfInBounds_toArray, List.set_cons_zero, List.set_cons_succ]
      refine wpAnyH_done (by kernel_rfl) ?_ _
      clear hHeld
      all_goals (go_wp2_with fail)
      all_goals go_meet
      all_goals exact ⟨b, er, rfl, rfl, H3.out⟩
    · go_simp
      obtain ⟨w1, hw1⟩ : ∃ w1, w1 = (W0.alloc (.cells zcM 72)).drew := ⟨_, rfl⟩
      obtain ⟨b, hb⟩ : ∃ b, b = W0.heap.size := ⟨_, rfl⟩
      have H1 : Hid (∃ own1, TkQ W0 w1 own0 own1 p R bx on f t bv pl k xx zeroM zeroM ∧ w1.heap[b]? = some (.cells zcM 72 (0, 0)) ∧ own1 b / 10 ≠ p ∧ W0.heap.size ≤ b) := by
        rw [hw1, hb]
        exact ⟨_, HK0.out.up hp1 (((Kept.refl _ _).alloc _).drewN 1), heap_alloc_new _ _, by rw [upQ_new (Nat.le_refl _)]; omega, HK0.out.st.kept.size⟩
      rw [← hw1, ← hb]
      have S1 : BxQ w1 R bx f t bv pl k xx := by obtain ⟨_, q, _⟩ := H1.out; exact q.bx'.re rfl rfl rfl rfl rfl
      clear hw1 hb hHeld
      refine hK.out _ _ S1 (fun hHeld => ?_)
      clear hK K
      refine wpAnyH_ready (rs := [6]) (by kernel_rfl) (by simp) ?_
      refine AllReadyH.cons (o := { dst := some 75, op := Op.call { callee := Callee.value (Operand.func 13), args := #[Operand.tmp 72, Operand.tmp 74], argTypes := #[28, 3] }, type := 73, pos := "law.go:68", after := #[{ on := 3, ground := Ground.data }, { on := 5, ground := Ground.data }], guard := none }) rfl (fun K hK => ?_) AllReadyH.nil
      go_simp
      obtain ⟨own1, q1, q2, q3, q4⟩ := H1.out
      refine Calls.mono (q1.tak (by omega)) ?_
      rintro _ w2 ⟨er, own2, v1, l1, y, rfl, htk, hst, hc⟩
      obtain ⟨ya, yc, hyv⟩ := rowSl htk.yo
      have H2 : Hid (∃ own2, TkQ W0 w2 own0 own2 p { R with v := v1, l := l1 } bx on f t bv pl k xx y zeroM ∧ w2.heap[b]? = some (.cells zcM 72 (0, 0)) ∧ own2 b / 10 ≠ p ∧ W0.heap.size ≤ b ∧ TkA R.l l1 pl er y) := ⟨own2, htk, hst.kept.heap q2 q3, by rw [hst.old b (lt_of_block q2) q3]; exact q3, q4, hc⟩
      have S1 : BxQ w2 R bx f t bv pl k xx := htk.bx'.re rfl rfl rfl rfl rfl
      have hcs : y.cells.toArray = #[.int .i8 y.f, .int .i8 y.t, .slice ya y.bs.length yc, .bool y.sp] := by rw [← hyv]
      have HYV : Hid (y.v = .slice ya y.bs.length yc) := hyv
      rw [hcs]
      clear htk hst hc hHeld hcs hyv q1 q2 q3 q4 H1
      refine hK.out _ _ S1 (fun hHeld => ?_)
      clear hK K
      refine wpAnyH_take (i := 7) (oi := { dst := some 68, op := Op.move (Operand.tmp 75), type := 73, pos := "law.go:68", after := #[{ on := 6, ground := Ground.data }], guard := none }) (v := ?_) rfl (by kernel_rfl) (by kernel_rfl) (by kernel_rfl) (fun _ _ _ h => h) (Or.inl ⟨by rfl, ?_⟩) (by assumption) ?_
      rotate_left
      · (intro w hSw; (try dsimp only at hSw); obtain ⟨x0, x1, x2, x3, o2, o3, o4, o5, o6, o7, zx, zb⟩ := hSw; go_simp) <;> with_reducible rfl
      try simp only [Act.put, List.setIfInBounds_toArray, List.set_cons_zero, List.set_cons_succ]
      refine wpAnyH_take (i := 8) (oi := { dst := some 76, op := Op.extract (Operand.tmp 68) 0, type := 72, pos := "law.go:68", after := #[{ on := 7, ground := Ground.data }], guard := none }) (v := ?_) rfl (by kernel_rfl) (by kernel_rfl) (by kernel_rfl) (fun _ _ _ h => h) (Or.inl ⟨by rfl, ?_⟩) (by assumption) ?_
      rotate_left
      · (intro w hSw; (try dsimp only at hSw); obtain ⟨x0, x1, x2, x3, o2, o3, o4, o5, o6, o7, zx, zb⟩ := hSw; go_simp) <;> with_reducible rfl
      try simp only [Act.put, List.setIfInBounds_toArray, List.set_cons_zero, List.set_cons_succ]
      refine wpAnyH_take (i := 9) (oi := { dst := some 77, op := Op.extract (Operand.tmp 68) 1, type := 29, pos := "law.go:68", after := #[{ on := 7, ground := Ground.data }, { on := 11, ground := Ground.gcOnly Departure.lateStores }], guard := none }) (v := ?_) rfl (by kernel_rfl) (by kernel_rfl) (by kernel_rfl) (fun _ _ _ h => h) (Or.inl ⟨by rfl, ?_⟩) (by assumption) ?_
      rotate_left
      · (intro w hSw; (try dsimp only at hSw); obtain ⟨x0, x1, x2, x3, o2, o3, o4, o5, o6, o7, zx, zb⟩ := hSw; go_simp) <;> with_reducible rfl
      try simp only [Act.put, List.setIfInBounds_toArray, List.set_cons_zero, List.set_cons_succ]
      refine wpAnyH_ready (rs := [11]) (by kernel_rfl) (by simp) ?_
      refine AllReadyH.cons (o := { dst := none, op := Op.store 72 (Operand.tmp 9) (Operand.tmp 76), type := 0, pos := "law.go:68", after := #[{ on := 10, ground := Ground.data }, { on := 8, ground := Ground.data }, { on := 6, ground := Ground.chain }, { on := 0, ground := Ground.phase }, { on := 1, ground := Ground.phase }, { on := 2, ground := Ground.phase }, { on := 3, ground := Ground.phase }, { on := 4, ground := Ground.phase }, { on := 5, ground := Ground.phase }, { on := 6, ground := Ground.phase }, { on := 7, ground := Ground.phase }, { on := 8, ground := Ground.phase }, { on := 9, ground := Ground.textOnly Departure.lateStores }, { on := 10, ground := Ground.phase }], guard := none }) rfl (fun K hK => ?_) AllReadyH.nil
      obtain ⟨own2, q1, q2, q3, q4, q5⟩ := H2.out
      have z1 := cell_of_row w2 b 0 _ _ _ q2
      have z2 := cell_of_row w2 b 1 _ _ _ q2
      have z3 := cell_of_row w2 b 2 _ _ _ q2
      have z4 := cell_of_row w2 b 3 _ _ _ q2
      simp only [List.getElem?_toArray, List.getElem?_cons_zero, List.getElem?_cons_succ] at z1 z2 z3 z4
      have u1 := boxF q2 0
      have u2 := boxF q2 1
      have u3 := boxF q2 2
      have u4 := boxF q2 3
      have z5 := lt_of_block q2
      have hbS := boxS q2 y
      rw [HYV.out] at hbS
      go_simp
      obtain ⟨w3, hw3⟩ : ∃ w3, w3 = (((w2.setCell ⟨b, 0, none⟩ (.int .i8 y.f)).setCell ⟨b, 1, none⟩ (.int .i8 y.t)).setCell ⟨b, 2, none⟩ (.slice ya y.bs.length yc)).setCell ⟨b, 3, none⟩ (.bool y.sp) := ⟨_, rfl⟩
      have H3 : Hid (∃ own1 v1 l1 y, TkQ W0 w3 own0 own1 p { R with v := v1, l := l1 } bx on f t bv pl k xx y zeroM ∧ w3.heap[b]? = some (.cells y.cells.toArray 72 (0, 0)) ∧ own1 b / 10 ≠ p ∧ W0.heap.size ≤ b ∧ TkA R.l l1 pl er y) := by
        rw [hw3]
        exact ⟨own2, v1, l1, y, q1.box hbS.2 q3 q4 (by omega), hbS.1, q3, q4, q5⟩
      rw [← hw3]
      have S3 : BxQ w3 R bx f t bv pl k xx := by obtain ⟨_, _, _, _, q, _⟩ := H3.out; exact q.bx'.re rfl rfl rfl rfl rfl
      clear hw3 hbS z1 z2 z3 z4 u1 u2 u3 u4 z5 q1 q2 q3 q4 q5 H2 hHeld
      refine hK.out _ _ S3 (fun hHeld => ?_)
      clear hK K
      refine wpAnyH_take (i := 12) (oi := { dst := some 10, op := Op.assign (Operand.tmp 77), type := 29, pos := "law.go:68", after := #[{ on := 9, ground := Ground.data }, { on := 11, ground := Ground.chain }, { on := 0, ground := Ground.phase }, { on := 1, ground := Ground.phase }, { on := 2, ground := Ground.phase }, { on := 3, ground := Ground.phase }, { on := 4, ground := Ground.phase }, { on := 5, ground := Ground.phase }, { on := 6, ground := Ground.phase }, { on := 7, ground := Ground.phase }, { on := 8, ground := Ground.phase }, { on := 9, ground := Ground.phase }, { on := 10, ground := Ground.phase }, { on := 11, ground := Ground.phase }], guard := none }) (v := ?_) rfl (by kernel_rfl) (by kernel_rfl) (by kernel_rfl) (fun _ _ _ h => h) (Or.inl ⟨by rfl, ?_⟩) (by assumption) ?_
      rotate_left
      · (intro w hSw; (try dsimp only at hSw); obtain ⟨x0, x1, x2, x3, o2, o3, o4, o5, o6, o7, zx, zb⟩ := hSw; go_simp) <;> with_reducible rfl
      try simp only [Act.put, List.setIfInBounds_toArray, List.set_cons_zero, List.set_cons_succ]
      refine wpAnyH_done (by kernel_rfl) ?_ _
      clear hHeld
      all_goals (go_wp2_with fail)
      all_goals go_meet
      all_goals exact ⟨b, er, rfl, rfl, H3.out⟩
  case rest =>
    obtain ⟨b, er, rfl, rfl, HT⟩ := hcut
    obtain ⟨own1, v1, l1, y, t1, t2, t3, t4, t5⟩ := HT.out
    have HT1 : Hid (TkQ W0 wc own0 own1 p { R with v := v1, l := l1 } bx on f t bv pl k xx y zeroM ∧ BXm W0 wc own1 p b y ∧ TkA R.l l1 pl er y) := ⟨t1, ⟨t2, t3, t4⟩, t5⟩
    have HDR : Hid _ := (t1.new ((Kept.refl _ _).drewN 1)).rtak (by show R.L.length ≤ _; omega)
    clear t1 t2 t3 t4 t5 HT HD
    go_upto_region 11 with fail
    go_cut [11, 12] from 78 to 87 (fun vm ve wx => ∃ (c : Nat) (er2 : Int), vm = .pointer (some ⟨c, 0, none⟩) ∧ ve = .int .i64 er2 ∧ Hid (∃ own2 V2 L2 y2, TkQ W0 wx own0 own2 p { R with v := v1, l := l1, V := V2, L := L2 } bx on f t bv pl k xx y y2 ∧ BXm W0 wx own2 p b y ∧ BXm W0 wx own2 p c y2 ∧ c ≠ b ∧ TkR R.L L2 pl er2 y2))
    case first =>
      refine wp_region_held_drew (S := (fun V => BxQ V R bx f t bv pl k xx)) (by kernel_rfl) ?_ (fun hHeld => ?_)
      · exact (HT1.out.1.new ((Kept.refl _ _).drewN 1)).bx'.re rfl rfl rfl rfl rfl
      refine wpAnyH_take (i := 0) (oi := { dst := some 79, op := Op.move (Operand.tmp 0), type := 25, pos := "law.go:69", after := #[], guard := none }) (v := ?_) rfl (by kernel_rfl) (by kernel_rfl) (by kernel_rfl) (fun _ _ _ h => h) (Or.inl ⟨by rfl, ?_⟩) (by assumption) ?_
      rotate_left
      · (intro w hSw; (try dsimp only at hSw); obtain ⟨x0, x1, x2, x3, o2, o3, o4, o5, o6, o7, zx, zb⟩ := hSw; go_simp) <;> with_reducible rfl
      try simp only [Act.put, List.setIfInBounds_toArray, List.set_cons_zero, List.set_cons_succ]
      refine wpAnyH_take (i := 1) (oi := { dst := some 80, op := Op.nilCheck (Operand.tmp 79), type := 0, pos := "law.go:69", after := #[{ on := 0, ground := Ground.data }], guard := none }) (v := ?_) rfl (by kernel_rfl) (by kernel_rfl) (by kernel_rfl) (fun _ _ _ h => h) (Or.inl ⟨by rfl, ?_⟩) (by assumption) ?_
      rotate_left
      · (intro w hSw; (try dsimp only at hSw); obtain ⟨x0, x1, x2, x3, o2, o3, o4, o5, o6, o7, zx, zb⟩ := hSw; go_simp) <;> with_reducible rfl
      try simp only [Act.put, List.setIfInBounds_toArray, List.set_cons_zero, List.set_cons_succ]
      refine wpAnyH_take (i := 2) (oi := { dst := some 81, op := Op.fieldAddr 37 (Operand.tmp 80) 1, type := 0, pos := "law.go:69", after := #[{ on := 1, ground := Ground.data }], guard := none }) (v := ?_) rfl (by kernel_rfl) (by kernel_rfl) (by kernel_rfl) (fun _ _ _ h => h) (Or.inl ⟨by rfl, ?_⟩) (by assumption) ?_
      rotate_left
      · (intro w hSw; (try dsimp only at hSw); obtain ⟨x0, x1, x2, x3, o2, o3, o4, o5, o6, o7, zx, zb⟩ := hSw; go_simp) <;> with_reducible rfl
      try simp only [Act.put, List.setIfInBounds_toArray, List.set_cons_zero, List.set_cons_succ]
      refine wpAnyH_take (i := 3) (oi := { dst := some 82, op := Op.load 32 (Operand.tmp 81), type := 32, pos := "law.go:69", after := #[{ on := 2, ground := Ground.data }], guard := none }) (v := ?_) rfl (by kernel_rfl) (by kernel_rfl) (by kernel_rfl) (fun _ _ _ h => h) (Or.inl ⟨by rfl, ?_⟩) (by assumption) ?_
      rotate_left
      · (intro w hSw; (try dsimp only at hSw); obtain ⟨x0, x1, x2, x3, o2, o3, o4, o5, o6, o7, zx, zb⟩ := hSw; go_simp) <;> with_reducible rfl
      try simp only [Act.put, List.setIfInBounds_toArray, List.set_cons_zero, List.set_cons_succ]
      refine wpAnyH_take (i := 4) (oi := { dst := some 83, op := Op.fieldAddr 41 (Operand.tmp 3) 5, type := 0, pos := "law.go:69", after := #[], guard := none }) (v := ?_) rfl (by kernel_rfl) (by kernel_rfl) (by kernel_rfl) (fun _ _ _ h => h) (Or.inl ⟨by rfl, ?_⟩) (by assumption) ?_
      rotate_left
      · (intro w hSw; (try dsimp only at hSw); obtain ⟨x0, x1, x2, x3, o2, o3, o4, o5, o6, o7, zx, zb⟩ := hSw; go_simp) <;> with_reducible rfl
      try simp only [Act.put, List.setIfInBounds_toArray, List.set_cons_zero, List.set_cons_succ]
      refine wpAnyH_take (i := 5) (oi := { dst := some 84, op := Op.load 3 (Operand.tmp 83), type := 3, pos := "law.go:69", after := #[{ on := 4, ground := Ground.data }], guard := none }) (v := ?_) rfl (by kernel_rfl) (by kernel_rfl) (by kernel_rfl) (fun _ _ _ h => h) (Or.inl ⟨by rfl, ?_⟩) (by assumption) ?_
      rotate_left
      · (intro w hSw; (try dsimp only at hSw); obtain ⟨x0, x1, x2, x3, o2, o3, o4, o5, o6, o7, zx, zb⟩ := hSw; go_simp) <;> with_reducible rfl
      try simp only [Act.put, List.setIfInBounds_toArray, List.set_cons_zero, List.set_cons_succ]
      refine wpAnyH_ready (rs := [6, 10]) (by kernel_rfl) (by simp) ?_
      refine AllReadyH.cons (o := { dst := some 85, op := Op.call { callee := Callee.value (Operand.func 20), args := #[Operand.tmp 82, Operand.tmp 84], argTypes := #[32, 3] }, type := 73, pos := "law.go:69", after := #[{ on := 3, ground := Ground.data }, { on := 5, ground := Ground.data }], guard := none }) rfl (fun K hK => ?_) (AllReadyH.cons (o := { dst := some 11, op := Op.alloc 72, type := 0, pos := "law.go:69", after := #[], guard := none }) rfl (fun K hK => ?_) AllReadyH.nil)
      · go_simp
        refine Calls.mono HDR.out ?_
        rintro _ w1 ⟨er2, own2, V2, L2, y2, rfl, htk, hst, hc⟩
        have hst := (Stp.new (own := own1) (p := p) ((Kept.refl wc _).drewN 1)).trans hst
        obtain ⟨za, zc, hyv⟩ := rowSl htk.y2o
        have H1 : Hid ((TkQ W0 w1 own0 own2 p { R with v := v1, l := l1, V := V2, L := L2 } bx on f t bv pl k xx y y2 ∧ BXm W0 w1 own2 p b y) ∧ TkR R.L L2 pl er2 y2) := ⟨⟨htk, HT1.out.2.1.stp hst⟩, hc⟩
        have S1 : BxQ w1 R bx f t bv pl k xx := htk.bx'.re rfl rfl rfl rfl rfl
        have hcs : y2.cells.toArray = #[.int .i8 y2.f, .int .i8 y2.t, .slice za y2.bs.length zc, .bool y2.sp] := by rw [← hyv]
        have HYV : Hid (y2.v = .slice za y2.bs.length zc) := hyv
        rw [hcs]
        clear htk hst hc hHeld hcs hyv
        refine hK.out _ _ S1 (fun hHeld => ?_)
        clear hK K
        refine wpAnyH_take (i := 7) (oi := { dst := some 78, op := Op.move (Operand.tmp 85), type := 73, pos := "law.go:69", after := #[{ on := 6, ground := Ground.data }], guard := none }) (v := ?_) rfl (by kernel_rfl) (by kernel_rfl) (by kernel_rfl) (fun _ _ _ h => h) (Or.inl ⟨by rfl, ?_⟩) (by assumption) ?_
        rotate_left
        · (intro w hSw; (try dsimp only at hSw); obtain ⟨x0, x1, x2, x3, o2, o3, o4, o5, o6, o7, zx, zb⟩ := hSw; go_simp) <;> with_reducible rfl
        try simp only [Act.put, List.setIfInBounds_toArray, List.set_cons_zero, List.set_cons_succ]
        refine wpAnyH_take (i := 8) (oi := { dst := some 86, op := Op.extract (Operand.tmp 78) 0, type := 72, pos := "law.go:69", after := #[{ on := 7, ground := Ground.data }], guard := none }) (v := ?_) rfl (by kernel_rfl) (by kernel_rfl) (by kernel_rfl) (fun _ _ _ h => h) (Or.inl ⟨by rfl, ?_⟩) (by assumption) ?_
        rotate_left
        · (intro w hSw; (try dsimp only at hSw); obtain ⟨x0, x1, x2, x3, o2, o3, o4, o5, o6, o7, zx, zb⟩ := hSw; go_simp) <;> with_reducible rfl
        try simp only [Act.put, List.setIfInBounds_toArray, List.set_cons_zero, List.set_cons_succ]
        refine wpAnyH_take (i := 9) (oi := { dst := some 87, op := Op.extract (Operand.tmp 78) 1, type := 29, pos := "law.go:69", after := #[{ on := 7, ground := Ground.data }, { on := 11, ground := Ground.gcOnly Departure.lateStores }], guard := none }) (v := ?_) rfl (by kernel_rfl) (by kernel_rfl) (by kernel_rfl) (fun _ _ _ h => h) (Or.inl ⟨by rfl, ?_⟩) (by assumption) ?_
        rotate_left
        · (intro w hSw; (try dsimp only at hSw); obtain ⟨x0, x1, x2, x3, o2, o3, o4, o5, o6, o7, zx, zb⟩ := hSw; go_simp) <;> with_reducible rfl
        try simp only [Act.put, List.setIfInBounds_toArray, List.set_cons_zero, List.set_cons_succ]
        refine wpAnyH_ready (rs := [10]) (by kernel_rfl) (by simp) ?_
        refine AllReadyH.cons (o := { dst := some 11, op := Op.alloc 72, type := 0, pos := "law.go:69", after := #[], guard := none }) rfl (fun K hK => ?_) AllReadyH.nil
        go_simp
        obtain ⟨w2, hw2⟩ : ∃ w2, w2 = w1.alloc (.cells zcM 72) := ⟨_, rfl⟩
        obtain ⟨c, hb⟩ : ∃ c, c = w1.heap.size := ⟨_, rfl⟩
        have H2 : Hid (∃ own2, (TkQ W0 w2 own0 own2 p { R with v := v1, l := l1, V := V2, L := L2 } bx on f t bv pl k xx y y2 ∧ BXm W0 w2 own2 p b y) ∧ w2.heap[c]? = some (.cells zcM 72 (0, 0)) ∧ own2 c / 10 ≠ p ∧ W0.heap.size ≤ c ∧ c ≠ b ∧ TkR R.L L2 pl er2 y2) := by
          rw [hw2, hb]
          exact ⟨_, ⟨H1.out.1.1.up hp1 ((Kept.refl _ _).alloc _), H1.out.1.2.up ((Kept.refl _ _).alloc _)⟩, heap_alloc_new _ _, by rw [upQ_new (Nat.le_refl _)]; omega, H1.out.1.1.st.kept.size, by have := lt_of_block H1.out.1.2.row; omega, H1.out.2⟩
        rw [← hw2, ← hb]
        have S2 : BxQ w2 R bx f t bv pl k xx := by obtain ⟨_, q, _⟩ := H2.out; exact q.1.bx'.re rfl rfl rfl rfl rfl
        clear hw2 hb H1 hHeld
        refine hK.out _ _ S2 (fun hHeld => ?_)
        clear hK K
        refine wpAnyH_ready (rs := [11]) (by kernel_rfl) (by simp) ?_
        refine AllReadyH.cons (o := { dst := none, op := Op.store 72 (Operand.tmp 11) (Operand.tmp 86), type := 0, pos := "law.go:69", after := #[{ on := 10, ground := Ground.data }, { on := 8, ground := Ground.data }, { on := 6, ground := Ground.chain }, { on := 0, ground := Ground.phase }, { on := 1, ground := Ground.phase }, { on := 2, ground := Ground.phase }, { on := 3, ground := Ground.phase }, { on := 4, ground := Ground.phase }, { on := 5, ground := Ground.phase }, { on := 6, ground := Ground.phase }, { on := 7, ground := Ground.phase }, { on := 8, ground := Ground.phase }, { on := 9, ground := Ground.textOnly Departure.lateStores }, { on := 10, ground := Ground.phase }], guard := none }) rfl (fun K hK => ?_) AllReadyH.nil
        obtain ⟨own2, ⟨q1, q0⟩, q2, q3, q4, q5, q6⟩ := H2.out
        have z1 := cell_of_row w2 c 0 _ _ _ q2
        have z2 := cell_of_row w2 c 1 _ _ _ q2
        have z3 := cell_of_row w2 c 2 _ _ _ q2
        have z4 := cell_of_row w2 c 3 _ _ _ q2
        simp only [List.getElem?_toArray, List.getElem?_cons_zero, List.getElem?_cons_succ] at z1 z2 z3 z4
        have u1 := boxF q2 0
        have u2 := boxF q2 1
        have u3 := boxF q2 2
        have u4 := boxF q2 3
        have z5 := lt_of_block q2
        have hbS := boxS q2 y2
        rw [HYV.out] at hbS
        go_simp
        obtain ⟨w3, hw3⟩ : ∃ w3, w3 = (((w2.setCell ⟨c, 0, none⟩ (.int .i8 y2.f)).setCell ⟨c, 1, none⟩ (.int .i8 y2.t)).setCell ⟨c, 2, none⟩ (.slice za y2.bs.length zc)).setCell ⟨c, 3, none⟩ (.bool y2.sp) := ⟨_, rfl⟩
        have H3 : Hid (∃ own2 V2 L2 y2, TkQ W0 w3 own0 own2 p { R with v := v1, l := l1, V := V2, L := L2 } bx on f t bv pl k xx y y2 ∧ BXm W0 w3 own2 p b y ∧ BXm W0 w3 own2 p c y2 ∧ c ≠ b ∧ TkR R.L L2 pl er2 y2) := by
          rw [hw3]
          exact ⟨own2, V2, L2, y2, q1.box hbS.2 q3 q4 (by omega), q0.box hbS.2 (fun e => q5 e.symm), ⟨hbS.1, q3, q4⟩, q5, q6⟩
        rw [← hw3]
        have S3 : BxQ w3 R bx f t bv pl k xx := by obtain ⟨_, _, _, _, q, _⟩ := H3.out; exact q.bx'.re rfl rfl rfl rfl rfl
        clear hw3 hbS z1 z2 z3 z4 u1 u2 u3 u4 z5 q0 q1 q2 q3 q4 q5 q6 H2 hHeld
        refine hK.out _ _ S3 (fun hHeld => ?_)
        clear hK K
        refine wpAnyH_take (i := 12) (oi := { dst := some 12, op := Op.assign (Operand.tmp 87), type := 29, pos := "law.go:69", after := #[{ on := 9, ground := Ground.data }, { on := 11, ground := Ground.chain }, { on := 0, ground := Ground.phase }, { on := 1, ground := Ground.phase }, { on := 2, ground := Ground.phase }, { on := 3, ground := Ground.phase }, { on := 4, ground := Ground.phase }, { on := 5, ground := Ground.phase }, { on := 6, ground := Ground.phase }, { on := 7, ground := Ground.phase }, { on := 8, ground := Ground.phase }, { on := 9, ground := Ground.phase }, { on := 10, ground := Ground.phase }, { on := 11, ground := Ground.phase }], guard := none }) (v := ?_) rfl (by kernel_rfl) (by kernel_rfl) (by kernel_rfl) (fun _ _ _ h => h) (Or.inl ⟨by rfl, ?_⟩) (by assumption) ?_
        rotate_left
        · (intro w hSw; (try dsimp only at hSw); obtain ⟨x0, x1, x2, x3, o2, o3, o4, o5, o6, o7, zx, zb⟩ := hSw; go_simp) <;> with_reducible rfl
        try simp only [Act.put, List.setIfInBounds_toArray, List.set_cons_zero, List.set_cons_succ]
        refine wpAnyH_done (by kernel_rfl) ?_ _
        clear hHeld
        all_goals (go_wp2_with fail)
        all_goals go_meet
        all_goals exact ⟨c, er2, rfl, rfl, H3.out⟩
      · go_simp
        obtain ⟨w1, hw1⟩ : ∃ w1, w1 = (wc.alloc (.cells zcM 72)).drew := ⟨_, rfl⟩
        obtain ⟨c, hb⟩ : ∃ c, c = wc.heap.size := ⟨_, rfl⟩
        have H1 : Hid (∃ own2, (TkQ W0 w1 own0 own2 p { R with v := v1, l := l1 } bx on f t bv pl k xx y zeroM ∧ BXm W0 w1 own2 p b y) ∧ w1.heap[c]? = some (.cells zcM 72 (0, 0)) ∧ own2 c / 10 ≠ p ∧ W0.heap.size ≤ c ∧ c ≠ b) := by
          rw [hw1, hb]
          exact ⟨_, ⟨HT1.out.1.up hp1 (((Kept.refl _ _).alloc _).drewN 1), HT1.out.2.1.up (((Kept.refl _ _).alloc _).drewN 1)⟩, heap_alloc_new _ _, by rw [upQ_new (Nat.le_refl _)]; omega, HT1.out.1.st.kept.size, by have := lt_of_block HT1.out.2.1.row; omega⟩
        rw [← hw1, ← hb]
        have S1 : BxQ w1 R bx f t bv pl k xx := by obtain ⟨_, q, _⟩ := H1.out; exact q.1.bx'.re rfl rfl rfl rfl rfl
        clear hw1 hb hHeld
        refine hK.out _ _ S1 (fun hHeld => ?_)
        clear hK K
        refine wpAnyH_ready (rs := [6]) (by kernel_rfl) (by simp) ?_
        refine AllReadyH.cons (o := { dst := some 85, op := Op.call { callee := Callee.value (Operand.func 20), args := #[Operand.tmp 82, Operand.tmp 84], argTypes := #[32, 3] }, type := 73, pos := "law.go:69", after := #[{ on := 3, ground := Ground.data }, { on := 5, ground := Ground.data }], guard := none }) rfl (fun K hK => ?_) AllReadyH.nil
        go_simp
        obtain ⟨own3, ⟨q1, q0⟩, q2, q3, q4, q5⟩ := H1.out
        refine Calls.mono (q1.rtak (by show R.L.length ≤ _; omega)) ?_
        rintro _ w2 ⟨er2, own2, V2, L2, y2, rfl, htk, hst, hc⟩
        obtain ⟨za, zc, hyv⟩ := rowSl htk.y2o
        have H2 : Hid (∃ own2, (TkQ W0 w2 own0 own2 p { R with v := v1, l := l1, V := V2, L := L2 } bx on f t bv pl k xx y y2 ∧ BXm W0 w2 own2 p b y) ∧ w2.heap[c]? = some (.cells zcM 72 (0, 0)) ∧ own2 c / 10 ≠ p ∧ W0.heap.size ≤ c ∧ c ≠ b ∧ TkR R.L L2 pl er2 y2) := ⟨own2, ⟨htk, q0.stp hst⟩, hst.kept.heap q2 q3, by rw [hst.old c (lt_of_block q2) q3]; exact q3, q4, q5, hc⟩
        have S1 : BxQ w2 R bx f t bv pl k xx := htk.bx'.re rfl rfl rfl rfl rfl
        have hcs : y2.cells.toArray = #[.int .i8 y2.f, .int .i8 y2.t, .slice za y2.bs.length zc, .bool y2.sp] := by rw [← hyv]
        have HYV : Hid (y2.v = .slice za y2.bs.length zc) := hyv
        rw [hcs]
        clear htk hst hc hHeld hcs hyv q0 q1 q2 q3 q4 q5 H1
        refine hK.out _ _ S1 (fun hHeld => ?_)
        clear hK K
        refine wpAnyH_take (i := 7) (oi := { dst := some 78, op := Op.move (Operand.tmp 85), type := 73, pos := "law.go:69", after := #[{ on := 6, ground := Ground.data }], guard := none }) (v := ?_) rfl (by kernel_rfl) (by kernel_rfl) (by kernel_rfl) (fun _ _ _ h => h) (Or.inl ⟨by rfl, ?_⟩) (by assumption) ?_
        rotate_left
        · (intro w hSw; (try dsimp only at hSw); obtain ⟨x0, x1, x2, x3, o2, o3, o4, o5, o6, o7, zx, zb⟩ := hSw; go_simp) <;> with_reducible rfl
        try simp only [Act.put, List.setIfInBounds_toArray, List.set_cons_zero, List.set_cons_succ]
        refine wpAnyH_take (i := 8) (oi := { dst := some 86, op := Op.extract (Operand.tmp 78) 0, type := 72, pos := "law.go:69", after := #[{ on := 7, ground := Ground.data }], guard := none }) (v := ?_) rfl (by kernel_rfl) (by kernel_rfl) (by kernel_rfl) (fun _ _ _ h => h) (Or.inl ⟨by rfl, ?_⟩) (by assumption) ?_
        rotate_left
        · (intro w hSw; (try dsimp only at hSw); obtain ⟨x0, x1, x2, x3, o2, o3, o4, o5, o6, o7, zx, zb⟩ := hSw; go_simp) <;> with_reducible rfl
        try simp only [Act.put, List.setIfInBounds_toArray, List.set_cons_zero, List.set_cons_succ]
        refine wpAnyH_take (i := 9) (oi := { dst := some 87, op := Op.extract (Operand.tmp 78) 1, type := 29, pos := "law.go:69", after := #[{ on := 7, ground := Ground.data }, { on := 11, ground := Ground.gcOnly Departure.lateStores }], guard := none }) (v := ?_) rfl (by kernel_rfl) (by kernel_rfl) (by kernel_rfl) (fun _ _ _ h => h) (Or.inl ⟨by rfl, ?_⟩) (by assumption) ?_
        rotate_left
        · (intro w hSw; (try dsimp only at hSw); obtain ⟨x0, x1, x2, x3, o2, o3, o4, o5, o6, o7, zx, zb⟩ := hSw; go_simp) <;> with_reducible rfl
        try simp only [Act.put, List.setIfInBounds_toArray, List.set_cons_zero, List.set_cons_succ]
        refine wpAnyH_ready (rs := [11]) (by kernel_rfl) (by simp) ?_
        refine AllReadyH.cons (o := { dst := none, op := Op.store 72 (Operand.tmp 11) (Operand.tmp 86), type := 0, pos := "law.go:69", after := #[{ on := 10, ground := Ground.data }, { on := 8, ground := Ground.data }, { on := 6, ground := Ground.chain }, { on := 0, ground := Ground.phase }, { on := 1, ground := Ground.phase }, { on := 2, ground := Ground.phase }, { on := 3, ground := Ground.phase }, { on := 4, ground := Ground.phase }, { on := 5, ground := Ground.phase }, { on := 6, ground := Ground.phase }, { on := 7, ground := Ground.phase }, { on := 8, ground := Ground.phase }, { on := 9, ground := Ground.textOnly Departure.lateStores }, { on := 10, ground := Ground.phase }], guard := none }) rfl (fun K hK => ?_) AllReadyH.nil
        obtain ⟨own2, ⟨q1, q0⟩, q2, q3, q4, q5, q6⟩ := H2.out
        have z1 := cell_of_row w2 c 0 _ _ _ q2
        have z2 := cell_of_row w2 c 1 _ _ _ q2
        have z3 := cell_of_row w2 c 2 _ _ _ q2
        have z4 := cell_of_row w2 c 3 _ _ _ q2
        simp only [List.getElem?_toArray, List.getElem?_cons_zero, List.getElem?_cons_succ] at z1 z2 z3 z4
        have u1 := boxF q2 0
        have u2 := boxF q2 1
        have u3 := boxF q2 2
        have u4 := boxF q2 3
        have z5 := lt_of_block q2
        have hbS := boxS q2 y2
        rw [HYV.out] at hbS
        go_simp
        obtain ⟨w3, hw3⟩ : ∃ w3, w3 = (((w2.setCell ⟨c, 0, none⟩ (.int .i8 y2.f)).setCell ⟨c, 1, none⟩ (.int .i8 y2.t)).setCell ⟨c, 2, none⟩ (.slice za y2.bs.length zc)).setCell ⟨c, 3, none⟩ (.bool y2.sp) := ⟨_, rfl⟩
        have H3 : Hid (∃ own2 V2 L2 y2, TkQ W0 w3 own0 own2 p { R with v := v1, l := l1, V := V2, L := L2 } bx on f t bv pl k xx y y2 ∧ BXm W0 w3 own2 p b y ∧ BXm W0 w3 own2 p c y2 ∧ c ≠ b ∧ TkR R.L L2 pl er2 y2) := by
          rw [hw3]
          exact ⟨own2, V2, L2, y2, q1.box hbS.2 q3 q4 (by omega), q0.box hbS.2 (fun e => q5 e.symm), ⟨hbS.1, q3, q4⟩, q5, q6⟩
        rw [← hw3]
        have S3 : BxQ w3 R bx f t bv pl k xx := by obtain ⟨_, _, _, _, q, _⟩ := H3.out; exact q.bx'.re rfl rfl rfl rfl rfl
        clear hw3 hbS z1 z2 z3 z4 u1 u2 u3 u4 z5 q0 q1 q2 q3 q4 q5 q6 H2 hHeld
        refine hK.out _ _ S3 (fun hHeld => ?_)
        clear hK K
        refine wpAnyH_take (i := 12) (oi := { dst := some 12, op := Op.assign (Operand.tmp 87), type := 29, pos := "law.go:69", after := #[{ on := 9, ground := Ground.data }, { on := 11, ground := Ground.chain }, { on := 0, ground := Ground.phase }, { on := 1, ground := Ground.phase }, { on := 2, ground := Ground.phase }, { on := 3, ground := Ground.phase }, { on := 4, ground := Ground.phase }, { on := 5, ground := Ground.phase }, { on := 6, ground := Ground.phase }, { on := 7, ground := Ground.phase }, { on := 8, ground := Ground.phase }, { on := 9, ground := Ground.phase }, { on := 10, ground := Ground.phase }, { on := 11, ground := Ground.phase }], guard := none }) (v := ?_) rfl (by kernel_rfl) (by kernel_rfl) (by kernel_rfl) (fun _ _ _ h => h) (Or.inl ⟨by rfl, ?_⟩) (by assumption) ?_
        rotate_left
        · (intro w hSw; (try dsimp only at hSw); obtain ⟨x0, x1, x2, x3, o2, o3, o4, o5, o6, o7, zx, zb⟩ := hSw; go_simp) <;> with_reducible rfl
        try simp only [Act.put, List.setIfInBounds_toArray, List.set_cons_zero, List.set_cons_succ]
        refine wpAnyH_done (by kernel_rfl) ?_ _
        clear hHeld
        all_goals (go_wp2_with fail)
        all_goals go_meet
        all_goals exact ⟨c, er2, rfl, rfl, H3.out⟩
    case rest =>
      obtain ⟨c, er2, rfl, rfl, HT⟩ := hcut
      obtain ⟨own2, V2, L2, y2, t1, t2, t3, t4, t5⟩ := HT.out
      obtain ⟨hee, hal2, hll2, hsm⟩ := tak_both HP.out.1 HT1.out.2.2 t5
      subst hee
      obtain ⟨ya, yc, hyv⟩ := rowSl t1.yo
      obtain ⟨za, zc, hzv⟩ := rowSl t1.y2o
      obtain ⟨yf, yt, yv, ybs, ysp⟩ := y
      obtain ⟨zf, zt, zv, zbs, zsp⟩ := y2
      simp only at hyv hzv
      subst hyv hzv
      have HT2 : Hid (TkQ W0 wc own0 own2 p { R with v := v1, l := l1, V := V2, L := L2 } bx on f t bv pl k xx ⟨yf, yt, .slice ya ybs.length yc, ybs, ysp⟩ ⟨zf, zt, .slice za zbs.length zc, zbs, zsp⟩ ∧ BXm W0 wc own2 p b ⟨yf, yt, .slice ya ybs.length yc, ybs, ysp⟩ ∧ BXm W0 wc own2 p c ⟨zf, zt, .slice za zbs.length zc, zbs, zsp⟩) := ⟨t1, t2, t3⟩
      have HC2 : Hid (AlikeG (l1.map MsD.gd) L2 ∧ l1.length ≤ R.l.length + 1 ∧ sameG ⟨yf, yt, .slice ya ybs.length yc, ybs, ysp⟩ ⟨zf, zt, .slice za zbs.length zc, zbs, zsp⟩ ∧ c ≠ b) := ⟨hal2, hll2, hsm, t4⟩
      clear t1 t2 t3 t4 t5 HT HT1 HDR hal2 hll2 hsm
      obtain ⟨b0, b1, b2, b3, b4⟩ := boxM HT2.out.2.1.row
      obtain ⟨c0, c1, c2, c3, c4⟩ := boxM HT2.out.2.2.row
      simp only at b0 b1 b2 b3 c0 c1 c2 c3
      obtain ⟨w4, hw4⟩ : ∃ w4, w4 = (wc.alloc (.cells #[.int .i8 yf, .int .i8 yt, .slice ya ybs.length yc, .bool ysp] 72)).alloc (.cells #[.int .i8 zf, .int .i8 zt, .slice za zbs.length zc, .bool zsp] 72) := ⟨_, rfl⟩
      have hk4 : Kept wc w4 (fun _ => False) := by rw [hw4]; exact ((Kept.refl _ _).alloc _).alloc _
      have HEQ : Hid (Calls Tryd.prog 9 #[.slice (some ⟨wc.heap.size, 0, none⟩) 1 1, .slice (some ⟨wc.heap.size + 1, 0, none⟩) 1 1] w4 fun e w' => e = .returned (.bool true) ∧ ∃ n, w' = w4.drewN n) := by
        obtain ⟨g1, g2, g3, g4⟩ := two_allocL wc (.cells #[.int .i8 yf, .int .i8 yt, .slice ya ybs.length yc, .bool ysp] 72) (.cells #[.int .i8 zf, .int .i8 zt, .slice za zbs.length zc, .bool zsp] 72)
        rw [← hw4] at g2 g3
        refine eqMs_same (oneG (y := ⟨yf, yt, .slice ya ybs.length yc, ybs, ysp⟩) g2 (Sees.own (Owns.kept HT2.out.1.yo hk4 (fun _ _ => id)))) (oneG (y := ⟨zf, zt, .slice za zbs.length zc, zbs, zsp⟩) g3 (Sees.own (Owns.kept HT2.out.1.y2o hk4 (fun _ _ => id)))) ⟨rfl, fun i x y hx hy => ?_⟩ (by simp)
        cases i with
        | zero => simp at hx hy; subst hx hy; exact HC2.out.2.2.1
        | succ i => simp at hx
      have HT4 : Hid (∀ n, (TkQ W0 (w4.drewN n) own0 own2 p { R with v := v1, l := l1, V := V2, L := L2 } bx on f t bv pl k xx ⟨yf, yt, .slice ya ybs.length yc, ybs, ysp⟩ ⟨zf, zt, .slice za zbs.length zc, zbs, zsp⟩ ∧ BXm W0 (w4.drewN n) own2 p b ⟨yf, yt, .slice ya ybs.length yc, ybs, ysp⟩ ∧ BXm W0 (w4.drewN n) own2 p c ⟨zf, zt, .slice za zbs.length zc, zbs, zsp⟩)) := fun n => ⟨HT2.out.1.new (hk4.drewN n), HT2.out.2.1.new (hk4.drewN n), HT2.out.2.2.new (hk4.drewN n)⟩
      go_wp2_with fail
      rw [← hw4]
      clear hw4 hk4 b0 b1 b2 b3 b4 c0 c1 c2 c3 c4 HT2
      refine Calls.mono HEQ.out ?_
      rintro _ w5 ⟨rfl, n5, rfl⟩
      obtain ⟨w5, hw5⟩ : ∃ w5, w5 = w4.drewN n5 := ⟨_, rfl⟩
      rw [← hw5]
      have HT5 := HT4.out n5
      rw [← hw5] at HT5
      obtain ⟨s1, s2, s3⟩ := HT5
      have HT5 : Hid (TkQ W0 w5 own0 own2 p { R with v := v1, l := l1, V := V2, L := L2 } bx on f t bv pl k xx ⟨yf, yt, .slice ya ybs.length yc, ybs, ysp⟩ ⟨zf, zt, .slice za zbs.length zc, zbs, zsp⟩ ∧ BXm W0 w5 own2 p b ⟨yf, yt, .slice ya ybs.length yc, ybs, ysp⟩ ∧ BXm W0 w5 own2 p c ⟨zf, zt, .slice za zbs.length zc, zbs, zsp⟩) := ⟨s1, s2, s3⟩
      clear hw5 HEQ HT4 s1 s2 s3
      clear w4
      obtain ⟨x0, x1, x2, x3, o2, o3, o4, o5, o6, o7, zx, zb⟩ := (HT5.out.1.bx'.re rfl rfl rfl rfl rfl : BxQ w5 R bx f t bv pl k xx)
      obtain ⟨ka, kc, hkv⟩ := rowSl HT5.out.1.pq.ko.row
      have hkv : R.kv = .slice ka R.K.length kc := hkv
      rw [hkv] at x2
      obtain ⟨b0, b1, b2, b3, b4⟩ := boxM HT5.out.2.1.row
      obtain ⟨c0, c1, c2, c3, c4⟩ := boxM HT5.out.2.2.row
      simp only at b0 b1 b2 b3 c0 c1 c2 c3
      by_cases hm : R.K.length % 2 = 0
      · have m1 : (R.K.length : Int) % 2 = 0 := by omega
        by_cases hs : R.K.length < 60
        · have m2 : (R.K.length : Int) < 60 := by omega
          have m3 : decide ((R.K.length : Int) < 60) = true := by simp; omega
          clear hm hs
          go_upto_region 14 with fail
          clear m1 m2 m3
          go_cut [13] from 108 to 117 (fun s wx => s = .bool true ∧ Hid (∃ own3 ka3 kn3 kc3, Pq wx own3 p { R with v := v1, l := l1, V := V2, L := L2, kv := .slice ka3 kn3 kc3, K := R.K ++ [⟨yf, yt, .slice ya ybs.length yc, ybs, ysp⟩] } ∧ Stp W0 wx own0 own3 p ∧ BXm W0 wx own3 p c ⟨zf, zt, .slice za zbs.length zc, zbs, zsp⟩ ∧ Owns wx 0 (.slice za zbs.length zc) zbs ∧ ∀ g, (Value.slice za zbs.length zc).ownBlock = some g → own3 g = 10 * p + 6))
          case first =>
            have g0 : SbQ w5.drew R.x b yf yt (.slice ya ybs.length yc) ysp := ⟨b0, b1, b2, b3, b4, zx⟩
            clear b0 b1 b2 b3 b4 c0 c1 c2 c3 c4 x0 x1 x3 o2 o3 o4 o5 o6 o7
            refine wp_region_held_drew (S := (fun V => SbQ V R.x b yf yt (.slice ya ybs.length yc) ysp)) (by kernel_rfl) ?_ (fun hHeld => ?_)
            · exact g0
            refine wpAnyH_take (i := 0) (oi := { dst := some 108, op := Op.move (Operand.tmp 0), type := 25, pos := "law.go:72", after := #[], guard := none }) (v := ?_) rfl (by kernel_rfl) (by kernel_rfl) (by kernel_rfl) (fun _ _ _ h => h) (Or.inl ⟨by rfl, ?_⟩) (by assumption) ?_
            rotate_left
            · (intro w hSw; (try dsimp only at hSw); obtain ⟨s0, s1, s2, s3, s4, s5⟩ := hSw; go_simp) <;> with_reducible rfl
            try simp only [Act.put, List.setIfInBounds_toArray, List.set_cons_zero, List.set_cons_succ]
            refine wpAnyH_take (i := 1) (oi := { dst := some 109, op := Op.move (Operand.tmp 0), type := 25, pos := "law.go:72", after := #[], guard := none }) (v := ?_) rfl (by kernel_rfl) (by kernel_rfl) (by kernel_rfl) (fun _ _ _ h => h) (Or.inl ⟨by rfl, ?_⟩) (by assumption) ?_
            rotate_left
            · (intro w hSw; (try dsimp only at hSw); obtain ⟨s0, s1, s2, s3, s4, s5⟩ := hSw; go_simp) <;> with_reducible rfl
            try simp only [Act.put, List.setIfInBounds_toArray, List.set_cons_zero, List.set_cons_succ]
            refine wpAnyH_take (i := 2) (oi := { dst := some 110, op := Op.nilCheck (Operand.tmp 109), type := 0, pos := "law.go:72", after := #[{ on := 1, ground := Ground.data }], guard := none }) (v := ?_) rfl (by kernel_rfl) (by kernel_rfl) (by kernel_rfl) (fun _ _ _ h => h) (Or.inl ⟨by rfl, ?_⟩) (by assumption) ?_
            rotate_left
            · (intro w hSw; (try dsimp only at hSw); obtain ⟨s0, s1, s2, s3, s4, s5⟩ := hSw; go_simp) <;> with_reducible rfl
            try simp only [Act.put, List.setIfInBounds_toArray, List.set_cons_zero, List.set_cons_succ]
            refine wpAnyH_take (i := 3) (oi := { dst := some 111, op := Op.fieldAddr 37 (Operand.tmp 110) 2, type := 0, pos := "law.go:72", after := #[{ on := 2, ground := Ground.data }], guard := none }) (v := ?_) rfl (by kernel_rfl) (by kernel_rfl) (by kernel_rfl) (fun _ _ _ h => h) (Or.inl ⟨by rfl, ?_⟩) (by assumption) ?_
            rotate_left
            · (intro w hSw; (try dsimp only at hSw); obtain ⟨s0, s1, s2, s3, s4, s5⟩ := hSw; go_simp) <;> with_reducible rfl
            try simp only [Act.put, List.setIfInBounds_toArray, List.set_cons_zero, List.set_cons_succ]
            refine wpAnyH_take (i := 5) (oi := { dst := some 113, op := Op.load 72 (Operand.tmp 9), type := 72, pos := "law.go:72", after := #[], guard := none }) (v := ?_) rfl (by kernel_rfl) (by kernel_rfl) (by kernel_rfl) (fun _ _ _ h => h) (Or.inl ⟨by rfl, ?_⟩) (by assumption) ?_
            rotate_left
            · (intro w hSw; (try dsimp only at hSw); obtain ⟨s0, s1, s2, s3, s4, s5⟩ := hSw; go_simp) <;> with_reducible rfl
            try simp only [Act.put, List.setIfInBounds_toArray, List.set_cons_zero, List.set_cons_succ]
            refine wpAnyH_ready (rs := [4, 6]) (by kernel_rfl) (by simp) ?_
            refine AllReadyH.cons (o := { dst := some 112, op := Op.load 35 (Operand.tmp 111), type := 35, pos := "law.go:72", after := #[{ on := 3, ground := Ground.data }], guard := none }) rfl (fun K hK => ?_) (AllReadyH.cons (o := { dst := some 114, op := Op.buildSlice 35 1 #[(0, Operand.tmp 113)], type := 35, pos := "law.go:72", after := #[{ on := 5, ground := Ground.data }], guard := none }) rfl (fun K hK => ?_) AllReadyH.nil)
            · go_simp
              refine hK.out _ _ hHeld (fun hHeld => ?_)
              clear hK K
              refine wpAnyH_ready (rs := [6]) (by kernel_rfl) (by simp) ?_
              refine AllReadyH.cons (o := { dst := some 114, op := Op.buildSlice 35 1 #[(0, Operand.tmp 113)], type := 35, pos := "law.go:72", after := #[{ on := 5, ground := Ground.data }], guard := none }) rfl (fun K hK => ?_) AllReadyH.nil
              go_simp
              obtain ⟨w6, hw6⟩ : ∃ w6, w6 = (w5.alloc (.cells #[.int .i8 yf, .int .i8 yt, .slice ya ybs.length yc, .bool ysp] 72)).drew := ⟨_, rfl⟩
              obtain ⟨O, hO⟩ : ∃ O, O = w5.heap.size := ⟨_, rfl⟩
              have H6 : Hid (Kept w5 w6 (fun _ => False) ∧ w6.heap[O]? = some (.cells #[.int .i8 yf, .int .i8 yt, .slice ya ybs.length yc, .bool ysp] 72 (0, 0))) := by
                rw [hw6, hO]
                exact ⟨((Kept.refl _ _).alloc _).drewN 1, heap_alloc_new w5 _⟩
              rw [← hw6, ← hO]
              have g6 : SbQ w6 R.x b yf yt (.slice ya ybs.length yc) ysp := g0.kept (V := w5.drew) (show Kept w5.drew w6 (fun _ => False) from ⟨H6.out.1.os, H6.out.1.tape, H6.out.1.output, H6.out.1.size, H6.out.1.block⟩) id
              have xb : w6.cell? ⟨R.x, 2, none⟩ = some (.slice ka R.K.length kc) := H6.out.1.cell x2 id
              clear hw6 hO hHeld
              refine hK.out _ _ g6 (fun hHeld => ?_)
              clear hK K
              refine wpAnyH_ready (rs := [7]) (by kernel_rfl) (by simp) ?_
              refine AllReadyH.cons (o := { dst := some 115, op := Op.call { callee := Callee.builtin Builtin.append, args := #[Operand.tmp 112, Operand.tmp 114], argTypes := #[35, 35] }, type := 35, pos := "law.go:72", after := #[{ on := 4, ground := Ground.data }, { on := 6, ground := Ground.data }], guard := none }) rfl (fun K hK => ?_) AllReadyH.nil
              have HT7 := HT5.out.1.new H6.out.1
              obtain ⟨ka8, kn8, kc8, w7, hr7, xc, xf, xz, hk7, own3, hq3, hs3, hk3, hc3⟩ := HT7.pq.addK (y := ⟨yf, yt, .slice ya ybs.length yc, ybs, ysp⟩) HT7.yo HT7.yc HT7.yl H6.out.2 (by show R.K.length ≤ _; omega)
              have xc : w7.cell? ⟨R.x, 2, none⟩ = some R.kv := xc
              have xf : w7.frozen? ⟨R.x, 2, none⟩ = false := xf
              have xz : R.x < w7.heap.size := xz
              have hr7 : ∀ ty, (Builtin.append_ #[35, 35] ty #[R.kv, .slice (some ⟨O, 0, none⟩) 1 1]).run Tryd.prog w6 = .ok (.slice ka8 kn8 kc8) w7 := hr7
              rw [hkv] at xc hr7
              have H8 : Hid ((∃ own3 ka3 kn3 kc3, Pq (w7.setCell ⟨R.x, 2, none⟩ (.slice ka8 kn8 kc8)) own3 p { R with v := v1, l := l1, V := V2, L := L2, kv := .slice ka3 kn3 kc3, K := R.K ++ [⟨yf, yt, .slice ya ybs.length yc, ybs, ysp⟩] } ∧ Stp W0 (w7.setCell ⟨R.x, 2, none⟩ (.slice ka8 kn8 kc8)) own0 own3 p ∧ BXm W0 (w7.setCell ⟨R.x, 2, none⟩ (.slice ka8 kn8 kc8)) own3 p c ⟨zf, zt, .slice za zbs.length zc, zbs, zsp⟩ ∧ Owns (w7.setCell ⟨R.x, 2, none⟩ (.slice ka8 kn8 kc8)) 0 (.slice za zbs.length zc) zbs ∧ ∀ g, (Value.slice za zbs.length zc).ownBlock = some g → own3 g = 10 * p + 6) ∧ ∃ own3, BXm W0 (w7.setCell ⟨R.x, 2, none⟩ (.slice ka8 kn8 kc8)) own3 p b ⟨yf, yt, .slice ya ybs.length yc, ybs, ysp⟩ ∧ R.x < (w7.setCell ⟨R.x, 2, none⟩ (.slice ka8 kn8 kc8)).heap.size) := by
                refine ⟨⟨own3, _, _, _, hq3, HT7.st.trans hs3, (HT5.out.2.2.new H6.out.1).stp hs3, Owns.kept HT7.y2o hk3 (fun g e e2 => ?_), fun g e => ?_⟩, own3, (HT5.out.2.1.new H6.out.1).stp hs3, lt_of_block hq3.row⟩
                · have h6 := HT7.y2c g e
                  rcases e2 with e2 | e2
                  · have := HT7.pq.okr g e2; omega
                  · have e3 : g = R.x := e2
                    have h0 : own2 R.x = 10 * p := HT7.pq.ox
                    rw [e3] at h6
                    omega
                · have h6 := HT7.y2c g e
                  rw [hc3 g (HT7.y2o.lt g e).2 (by omega)]
                  exact h6
              refine (if_pos (by kernel_rfl)).mpr ?_
              refine wp_appR _ _ 35 rfl _ _ _ w7 rfl rfl (hr7 _) ?_
              have g7 : SbQ w7 R.x b yf yt (.slice ya ybs.length yc) ysp := hHeld.kept hk7 (fun e => by have := HT7.pq.okr _ e; have := HT5.out.2.1.no; omega)
              clear hq3 hs3 hk3 hc3 hk7 HT7 hr7 hHeld
              refine hK.out _ _ g7 (fun hHeld => ?_)
              clear hK K
              refine wpAnyH_take (i := 8) (oi := { dst := some 116, op := Op.nilCheck (Operand.tmp 108), type := 0, pos := "law.go:72", after := #[{ on := 0, ground := Ground.data }, { on := 0, ground := Ground.phase }, { on := 1, ground := Ground.phase }, { on := 2, ground := Ground.phase }, { on := 3, ground := Ground.phase }, { on := 4, ground := Ground.phase }, { on := 5, ground := Ground.phase }, { on := 6, ground := Ground.phase }, { on := 7, ground := Ground.phase }], guard := none }) (v := ?_) rfl (by kernel_rfl) (by kernel_rfl) (by kernel_rfl) (fun _ _ _ h => h) (Or.inl ⟨by rfl, ?_⟩) (by assumption) ?_
              rotate_left
              · (intro w hSw; (try dsimp only at hSw); obtain ⟨s0, s1, s2, s3, s4, s5⟩ := hSw; go_simp) <;> with_reducible rfl
              try simp only [Act.put, List.setIfInBounds_toArray, List.set_cons_zero, List.set_cons_succ]
              refine wpAnyH_take (i := 9) (oi := { dst := some 117, op := Op.fieldAddr 37 (Operand.tmp 116) 2, type := 0, pos := "law.go:72", after := #[{ on := 8, ground := Ground.data }, { on := 0, ground := Ground.phase }, { on := 1, ground := Ground.phase }, { on := 2, ground := Ground.phase }, { on := 3, ground := Ground.phase }, { on := 4, ground := Ground.phase }, { on := 5, ground := Ground.phase }, { on := 6, ground := Ground.phase }, { on := 7, ground := Ground.phase }], guard := none }) (v := ?_) rfl (by kernel_rfl) (by kernel_rfl) (by kernel_rfl) (fun _ _ _ h => h) (Or.inl ⟨by rfl, ?_⟩) (by assumption) ?_
              rotate_left
              · (intro w hSw; (try dsimp only at hSw); obtain ⟨s0, s1, s2, s3, s4, s5⟩ := hSw; go_simp) <;> with_reducible rfl
              try simp only [Act.put, List.setIfInBounds_toArray, List.set_cons_zero, List.set_cons_succ]
              refine wpAnyH_ready (rs := [10]) (by kernel_rfl) (by simp) ?_
              refine AllReadyH.cons (o := { dst := none, op := Op.store 35 (Operand.tmp 117) (Operand.tmp 115), type := 0, pos := "law.go:72", after := #[{ on := 9, ground := Ground.data }, { on := 7, ground := Ground.data }, { on := 7, ground := Ground.chain }, { on := 0, ground := Ground.phase }, { on := 1, ground := Ground.phase }, { on := 2, ground := Ground.phase }, { on := 3, ground := Ground.phase }, { on := 4, ground := Ground.phase }, { on := 5, ground := Ground.phase }, { on := 6, ground := Ground.phase }, { on := 7, ground := Ground.phase }], guard := none }) rfl (fun K hK => ?_) AllReadyH.nil
              go_simp
              obtain ⟨w8, hw8⟩ : ∃ w8, w8 = w7.setCell ⟨R.x, 2, none⟩ (.slice ka8 kn8 kc8) := ⟨_, rfl⟩
              rw [← hw8]
              rw [← hw8] at H8
              have g8 : SbQ w8 R.x b yf yt (.slice ya ybs.length yc) ysp := by obtain ⟨_, own9, q1, q2⟩ := H8.out; exact SbQ.of q1 q2
              clear hw8 hHeld
              refine hK.out _ _ g8 (fun hHeld => ?_)
              clear hK K
              refine wpAnyH_done (by kernel_rfl) ?_ _
              clear hHeld
              all_goals (go_wp2_with fail)
              all_goals go_meet
              all_goals exact ⟨rfl, H8.out.1⟩
            · go_simp
              obtain ⟨w6, hw6⟩ : ∃ w6, w6 = (w5.alloc (.cells #[.int .i8 yf, .int .i8 yt, .slice ya ybs.length yc, .bool ysp] 72)).drew := ⟨_, rfl⟩
              obtain ⟨O, hO⟩ : ∃ O, O = w5.heap.size := ⟨_, rfl⟩
              have H6 : Hid (Kept w5 w6 (fun _ => False) ∧ w6.heap[O]? = some (.cells #[.int .i8 yf, .int .i8 yt, .slice ya ybs.length yc, .bool ysp] 72 (0, 0))) := by
                rw [hw6, hO]
                exact ⟨((Kept.refl _ _).alloc _).drewN 1, heap_alloc_new w5 _⟩
              rw [← hw6, ← hO]
              have g6 : SbQ w6 R.x b yf yt (.slice ya ybs.length yc) ysp := g0.kept (V := w5.drew) (show Kept w5.drew w6 (fun _ => False) from ⟨H6.out.1.os, H6.out.1.tape, H6.out.1.output, H6.out.1.size, H6.out.1.block⟩) id
              have xb : w6.cell? ⟨R.x, 2, none⟩ = some (.slice ka R.K.length kc) := H6.out.1.cell x2 id
              clear hw6 hO hHeld
              refine hK.out _ _ g6 (fun hHeld => ?_)
              clear hK K
              refine wpAnyH_ready (rs := [4]) (by kernel_rfl) (by simp) ?_
              refine AllReadyH.cons (o := { dst := some 112, op := Op.load 35 (Operand.tmp 111), type := 35, pos := "law.go:72", after := #[{ on := 3, ground := Ground.data }], guard := none }) rfl (fun K hK => ?_) AllReadyH.nil
              go_simp
              refine hK.out _ _ hHeld (fun hHeld => ?_)
              clear hK K
              refine wpAnyH_ready (rs := [7]) (by kernel_rfl) (by simp) ?_
              refine AllReadyH.cons (o := { dst := some 115, op := Op.call { callee := Callee.builtin Builtin.append, args := #[Operand.tmp 112, Operand.tmp 114], argTypes := #[35, 35] }, type := 35, pos := "law.go:72", after := #[{ on := 4, ground := Ground.data }, { on := 6, ground := Ground.data }], guard := none }) rfl (fun K hK => ?_) AllReadyH.nil
              have HT7 := HT5.out.1.new H6.out.1
              obtain ⟨ka8, kn8, kc8, w7, hr7, xc, xf, xz, hk7, own3, hq3, hs3, hk3, hc3⟩ := HT7.pq.addK (y := ⟨yf, yt, .slice ya ybs.length yc, ybs, ysp⟩) HT7.yo HT7.yc HT7.yl H6.out.2 (by show R.K.length ≤ _; omega)
              have xc : w7.cell? ⟨R.x, 2, none⟩ = some R.kv := xc
              have xf : w7.frozen? ⟨R.x, 2, none⟩ = false := xf
              have xz : R.x < w7.heap.size := xz
              have hr7 : ∀ ty, (Builtin.append_ #[35, 35] ty #[R.kv, .slice (some ⟨O, 0, none⟩) 1 1]).run Tryd.prog w6 = .ok (.slice ka8 kn8 kc8) w7 := hr7
              rw [hkv] at xc hr7
              have H8 : Hid ((∃ own3 ka3 kn3 kc3, Pq (w7.setCell ⟨R.x, 2, none⟩ (.slice ka8 kn8 kc8)) own3 p { R with v := v1, l := l1, V := V2, L := L2, kv := .slice ka3 kn3 kc3, K := R.K ++ [⟨yf, yt, .slice ya ybs.length yc, ybs, ysp⟩] } ∧ Stp W0 (w7.setCell ⟨R.x, 2, none⟩ (.slice ka8 kn8 kc8)) own0 own3 p ∧ BXm W0 (w7.setCell ⟨R.x, 2, none⟩ (.slice ka8 kn8 kc8)) own3 p c ⟨zf, zt, .slice za zbs.length zc, zbs, zsp⟩ ∧ Owns (w7.setCell ⟨R.x, 2, none⟩ (.slice ka8 kn8 kc8)) 0 (.slice za zbs.length zc) zbs ∧ ∀ g, (Value.slice za zbs.length zc).ownBlock = some g → own3 g = 10 * p + 6) ∧ ∃ own3, BXm W0 (w7.setCell ⟨R.x, 2, none⟩ (.slice ka8 kn8 kc8)) own3 p b ⟨yf, yt, .slice ya ybs.length yc, ybs, ysp⟩ ∧ R.x < (w7.setCell ⟨R.x, 2, none⟩ (.slice ka8 kn8 kc8)).heap.size) := by
                refine ⟨⟨own3, _, _, _, hq3, HT7.st.trans hs3, (HT5.out.2.2.new H6.out.1).stp hs3, Owns.kept HT7.y2o hk3 (fun g e e2 => ?_), fun g e => ?_⟩, own3, (HT5.out.2.1.new H6.out.1).stp hs3, lt_of_block hq3.row⟩
                · have h6 := HT7.y2c g e
                  rcases e2 with e2 | e2
                  · have := HT7.pq.okr g e2; omega
                  · have e3 : g = R.x := e2
                    have h0 : own2 R.x = 10 * p := HT7.pq.ox
                    rw [e3] at h6
                    omega
                · have h6 := HT7.y2c g e
                  rw [hc3 g (HT7.y2o.lt g e).2 (by omega)]
                  exact h6
              refine (if_pos (by kernel_rfl)).mpr ?_
              refine wp_appR _ _ 35 rfl _ _ _ w7 rfl rfl (hr7 _) ?_
              have g7 : SbQ w7 R.x b yf yt (.slice ya ybs.length yc) ysp := hHeld.kept hk7 (fun e => by have := HT7.pq.okr _ e; have := HT5.out.2.1.no; omega)
              clear hq3 hs3 hk3 hc3 hk7 HT7 hr7 hHeld
              refine hK.out _ _ g7 (fun hHeld => ?_)
              clear hK K
              refine wpAnyH_take (i := 8) (oi := { dst := some 116, op := Op.nilCheck (Operand.tmp 108), type := 0, pos := "law.go:72", after := #[{ on := 0, ground := Ground.data }, { on := 0, ground := Ground.phase }, { on := 1, ground := Ground.phase }, { on := 2, ground := Ground.phase }, { on := 3, ground := Ground.phase }, { on := 4, ground := Ground.phase }, { on := 5, ground := Ground.phase }, { on := 6, ground := Ground.phase }, { on := 7, ground := Ground.phase }], guard := none }) (v := ?_) rfl (by kernel_rfl) (by kernel_rfl) (by kernel_rfl) (fun _ _ _ h => h) (Or.inl ⟨by rfl, ?_⟩) (by assumption) ?_
              rotate_left
              · (intro w hSw; (try dsimp only at hSw); obtain ⟨s0, s1, s2, s3, s4, s5⟩ := hSw; go_simp) <;> with_reducible rfl
              try simp only [Act.put, List.setIfInBounds_toArray, List.set_cons_zero, List.set_cons_succ]
              refine wpAnyH_take (i := 9) (oi := { dst := some 117, op := Op.fieldAddr 37 (Operand.tmp 116) 2, type := 0, pos := "law.go:72", after := #[{ on := 8, ground := Ground.data }, { on := 0, ground := Ground.phase }, { on := 1, ground := Ground.phase }, { on := 2, ground := Ground.phase }, { on := 3, ground := Ground.phase }, { on := 4, ground := Ground.phase }, { on := 5, ground := Ground.phase }, { on := 6, ground := Ground.phase }, { on := 7, ground := Ground.phase }], guard := none }) (v := ?_) rfl (by kernel_rfl) (by kernel_rfl) (by kernel_rfl) (fun _ _ _ h => h) (Or.inl ⟨by rfl, ?_⟩) (by assumption) ?_
              rotate_left
              · (intro w hSw; (try dsimp only at hSw); obtain ⟨s0, s1, s2, s3, s4, s5⟩ := hSw; go_simp) <;> with_reducible rfl
              try simp only [Act.put, List.setIfInBounds_toArray, List.set_cons_zero, List.set_cons_succ]
              refine wpAnyH_ready (rs := [10]) (by kernel_rfl) (by simp) ?_
              refine AllReadyH.cons (o := { dst := none, op := Op.store 35 (Operand.tmp 117) (Operand.tmp 115), type := 0, pos := "law.go:72", after := #[{ on := 9, ground := Ground.data }, { on := 7, ground := Ground.data }, { on := 7, ground := Ground.chain }, { on := 0, ground := Ground.phase }, { on := 1, ground := Ground.phase }, { on := 2, ground := Ground.phase }, { on := 3, ground := Ground.phase }, { on := 4, ground := Ground.phase }, { on := 5, ground := Ground.phase }, { on := 6, ground := Ground.phase }, { on := 7, ground := Ground.phase }], guard := none }) rfl (fun K hK => ?_) AllReadyH.nil
              go_simp
              obtain ⟨w8, hw8⟩ : ∃ w8, w8 = w7.setCell ⟨R.x, 2, none⟩ (.slice ka8 kn8 kc8) := ⟨_, rfl⟩
              rw [← hw8]
              rw [← hw8] at H8
              have g8 : SbQ w8 R.x b yf yt (.slice ya ybs.length yc) ysp := by obtain ⟨_, own9, q1, q2⟩ := H8.out; exact SbQ.of q1 q2
              clear hw8 hHeld
              refine hK.out _ _ g8 (fun hHeld => ?_)
              clear hK K
              refine wpAnyH_done (by kernel_rfl) ?_ _
              clear hHeld
              all_goals (go_wp2_with fail)
              all_goals go_meet
              all_goals exact ⟨rfl, H8.out.1⟩
          case rest =>
            obtain ⟨rfl, HT⟩ := hcut
            obtain ⟨own3, ka3, kn3, kc3, u1, u2, u3, u4, u5⟩ := HT.out
            have HT6 : Hid (Pq wc own3 p { R with v := v1, l := l1, V := V2, L := L2, kv := .slice ka3 kn3 kc3, K := R.K ++ [⟨yf, yt, .slice ya ybs.length yc, ybs, ysp⟩] } ∧ Stp W0 wc own0 own3 p ∧ BXm W0 wc own3 p c ⟨zf, zt, .slice za zbs.length zc, zbs, zsp⟩ ∧ Owns wc 0 (.slice za zbs.length zc) zbs ∧ ∀ g, (Value.slice za zbs.length zc).ownBlock = some g → own3 g = 10 * p + 6) := ⟨u1, u2, u3, u4, u5⟩
            obtain ⟨la, lc, hlv⟩ := rowSl HT5.out.1.pq.wo.row
            have hlv : R.wv = .slice la R.T.length lc := hlv
            have HTl : Hid (R.T.length = R.K.length) := HP.out.2.1.symm
            have x3 : wc.cell? ⟨R.x, 3, none⟩ = some R.wv := by rw [cell_of_row _ _ 3 _ _ _ u1.row]; rfl
            rw [hlv] at x3
            have zx : R.x < wc.heap.size := lt_of_block u1.row
            have g0 : SbQ wc.drew R.x c zf zt (.slice za zbs.length zc) zsp := SbQ.of (V := wc.drew) (u3.new ((Kept.refl _ _).drewN 1)) zx
            clear u1 u2 u3 u4 u5 HT
            go_upto_region 15 with fail
            go_cut [13] from 118 to 127 (fun s wx => s = .bool true ∧ Hid (DoQ W0 wx own0 p R))
            case first =>
              refine wp_region_held_drew (S := (fun V => SbQ V R.x c zf zt (.slice za zbs.length zc) zsp)) (by kernel_rfl) ?_ (fun hHeld => ?_)
              · exact g0
              refine wpAnyH_take (i := 0) (oi := { dst := some 118, op := Op.move (Operand.tmp 0), type := 25, pos := "law.go:73", after := #[], guard := none }) (v := ?_) rfl (by kernel_rfl) (by kernel_rfl) (by kernel_rfl) (fun _ _ _ h => h) (Or.inl ⟨by rfl, ?_⟩) (by assumption) ?_
              rotate_left
              · (intro w hSw; (try dsimp only at hSw); obtain ⟨s0, s1, s2, s3, s4, s5⟩ := hSw; go_simp) <;> with_reducible rfl
              try simp only [Act.put, List.setIfInBounds_toArray, List.set_cons_zero, List.set_cons_succ]
              refine wpAnyH_take (i := 1) (oi := { dst := some 119, op := Op.move (Operand.tmp 0), type := 25, pos := "law.go:73", after := #[], guard := none }) (v := ?_) rfl (by kernel_rfl) (by kernel_rfl) (by kernel_rfl) (fun _ _ _ h => h) (Or.inl ⟨by rfl, ?_⟩) (by assumption) ?_
              rotate_left
              · (intro w hSw; (try dsimp only at hSw); obtain ⟨s0, s1, s2, s3, s4, s5⟩ := hSw; go_simp) <;> with_reducible rfl
              try simp only [Act.put, List.setIfInBounds_toArray, List.set_cons_zero, List.set_cons_succ]
              refine wpAnyH_take (i := 2) (oi := { dst := some 120, op := Op.nilCheck (Operand.tmp 119), type := 0, pos := "law.go:73", after := #[{ on := 1, ground := Ground.data }], guard := none }) (v := ?_) rfl (by kernel_rfl) (by kernel_rfl) (by kernel_rfl) (fun _ _ _ h => h) (Or.inl ⟨by rfl, ?_⟩) (by assumption) ?_
              rotate_left
              · (intro w hSw; (try dsimp only at hSw); obtain ⟨s0, s1, s2, s3, s4, s5⟩ := hSw; go_simp) <;> with_reducible rfl
              try simp only [Act.put, List.setIfInBounds_toArray, List.set_cons_zero, List.set_cons_succ]
              refine wpAnyH_take (i := 3) (oi := { dst := some 121, op := Op.fieldAddr 37 (Operand.tmp 120) 3, type := 0, pos := "law.go:73", after := #[{ on := 2, ground := Ground.data }], guard := none }) (v := ?_) rfl (by kernel_rfl) (by kernel_rfl) (by kernel_rfl) (fun _ _ _ h => h) (Or.inl ⟨by rfl, ?_⟩) (by assumption) ?_
              rotate_left
              · (intro w hSw; (try dsimp only at hSw); obtain ⟨s0, s1, s2, s3, s4, s5⟩ := hSw; go_simp) <;> with_reducible rfl
              try simp only [Act.put, List.setIfInBounds_toArray, List.set_cons_zero, List.set_cons_succ]
              refine wpAnyH_take (i := 5) (oi := { dst := some 123, op := Op.load 72 (Operand.tmp 11), type := 72, pos := "law.go:73", after := #[], guard := none }) (v := ?_) rfl (by kernel_rfl) (by kernel_rfl) (by kernel_rfl) (fun _ _ _ h => h) (Or.inl ⟨by rfl, ?_⟩) (by assumption) ?_
              rotate_left
              · (intro w hSw; (try dsimp only at hSw); obtain ⟨s0, s1, s2, s3, s4, s5⟩ := hSw; go_simp) <;> with_reducible rfl
              try simp only [Act.put, List.setIfInBounds_toArray, List.set_cons_zero, List.set_cons_succ]
              refine wpAnyH_ready (rs := [4, 6]) (by kernel_rfl) (by simp) ?_
              refine AllReadyH.cons (o := { dst := some 122, op := Op.load 35 (Operand.tmp 121), type := 35, pos := "law.go:73", after := #[{ on := 3, ground := Ground.data }], guard := none }) rfl (fun K hK => ?_) (AllReadyH.cons (o := { dst := some 124, op := Op.buildSlice 35 1 #[(0, Operand.tmp 123)], type := 35, pos := "law.go:73", after := #[{ on := 5, ground := Ground.data }], guard := none }) rfl (fun K hK => ?_) AllReadyH.nil)
              · go_simp
                refine hK.out _ _ hHeld (fun hHeld => ?_)
                clear hK K
                refine wpAnyH_ready (rs := [6]) (by kernel_rfl) (by simp) ?_
                refine AllReadyH.cons (o := { dst := some 124, op := Op.buildSlice 35 1 #[(0, Operand.tmp 123)], type := 35, pos := "law.go:73", after := #[{ on := 5, ground := Ground.data }], guard := none }) rfl (fun K hK => ?_) AllReadyH.nil
                go_simp
                obtain ⟨w6, hw6⟩ : ∃ w6, w6 = (wc.alloc (.cells #[.int .i8 zf, .int .i8 zt, .slice za zbs.length zc, .bool zsp] 72)).drew := ⟨_, rfl⟩
                obtain ⟨O, hO⟩ : ∃ O, O = wc.heap.size := ⟨_, rfl⟩
                have H6 : Hid (Kept wc w6 (fun _ => False) ∧ w6.heap[O]? = some (.cells #[.int .i8 zf, .int .i8 zt, .slice za zbs.length zc, .bool zsp] 72 (0, 0))) := by
                  rw [hw6, hO]
                  exact ⟨((Kept.refl _ _).alloc _).drewN 1, heap_alloc_new wc _⟩
                rw [← hw6, ← hO]
                have g6 : SbQ w6 R.x c zf zt (.slice za zbs.length zc) zsp := g0.kept (V := wc.drew) (show Kept wc.drew w6 (fun _ => False) from ⟨H6.out.1.os, H6.out.1.tape, H6.out.1.output, H6.out.1.size, H6.out.1.block⟩) id
                have xb : w6.cell? ⟨R.x, 3, none⟩ = some (.slice la R.T.length lc) := H6.out.1.cell x3 id
                clear hw6 hO hHeld
                refine hK.out _ _ g6 (fun hHeld => ?_)
                clear hK K
                refine wpAnyH_ready (rs := [7]) (by kernel_rfl) (by simp) ?_
                refine AllReadyH.cons (o := { dst := some 125, op := Op.call { callee := Callee.builtin Builtin.append, args := #[Operand.tmp 122, Operand.tmp 124], argTypes := #[35, 35] }, type := 35, pos := "law.go:73", after := #[{ on := 4, ground := Ground.data }, { on := 6, ground := Ground.data }], guard := none }) rfl (fun K hK => ?_) AllReadyH.nil
                have HT7 : Pq w6 own3 p { R with v := v1, l := l1, V := V2, L := L2, kv := .slice ka3 kn3 kc3, K := R.K ++ [⟨yf, yt, .slice ya ybs.length yc, ybs, ysp⟩] } := HT6.out.1.new H6.out.1
                obtain ⟨ka8, kn8, kc8, w7, hr7, xc, xf, xz, hk7, own4, hq3, hs3⟩ := HT7.addW (y := ⟨zf, zt, .slice za zbs.length zc, zbs, zsp⟩) (Owns.kept HT6.out.2.2.2.1 H6.out.1 (fun _ _ => id)) HT6.out.2.2.2.2 H6.out.2 (by show R.T.length ≤ _; rw [HTl.out]; omega)
                have xc : w7.cell? ⟨R.x, 3, none⟩ = some R.wv := xc
                have xf : w7.frozen? ⟨R.x, 3, none⟩ = false := xf
                have xz : R.x < w7.heap.size := xz
                have hr7 : ∀ ty, (Builtin.append_ #[35, 35] ty #[R.wv, .slice (some ⟨O, 0, none⟩) 1 1]).run Tryd.prog w6 = .ok (.slice ka8 kn8 kc8) w7 := hr7
                rw [hlv] at xc hr7
                have H8 : Hid (DoQ W0 (w7.setCell ⟨R.x, 3, none⟩ (.slice ka8 kn8 kc8)) own0 p R ∧ ∃ own3, BXm W0 (w7.setCell ⟨R.x, 3, none⟩ (.slice ka8 kn8 kc8)) own3 p c ⟨zf, zt, .slice za zbs.length zc, zbs, zsp⟩ ∧ R.x < (w7.setCell ⟨R.x, 3, none⟩ (.slice ka8 kn8 kc8)).heap.size) :=
                  ⟨⟨own4, _, hq3, HC2.out.1, HP.out.2.app HC2.out.2.2.1, rfl, HC2.out.2.1, by simp, (HT6.out.2.1.trans (Stp.new H6.out.1)).trans hs3⟩, own4, (HT6.out.2.2.1.new H6.out.1).stp hs3, lt_of_block hq3.row⟩
                refine (if_pos (by kernel_rfl)).mpr ?_
                refine wp_appR _ _ 35 rfl _ _ _ w7 rfl rfl (hr7 _) ?_
                have g7 : SbQ w7 R.x c zf zt (.slice za zbs.length zc) zsp := hHeld.kept hk7 (fun e => by have h5 : own3 c = 10 * p + 5 := HT7.owr _ e; have := HT6.out.2.2.1.no; omega)
                clear hq3 hs3 hk7 HT7 hr7 hHeld
                refine hK.out _ _ g7 (fun hHeld => ?_)
                clear hK K
                refine wpAnyH_take (i := 8) (oi := { dst := some 126, op := Op.nilCheck (Operand.tmp 118), type := 0, pos := "law.go:73", after := #[{ on := 0, ground := Ground.data }, { on := 0, ground := Ground.phase }, { on := 1, ground := Ground.phase }, { on := 2, ground := Ground.phase }, { on := 3, ground := Ground.phase }, { on := 4, ground := Ground.phase }, { on := 5, ground := Ground.phase }, { on := 6, ground := Ground.phase }, { on := 7, ground := Ground.phase }], guard := none }) (v := ?_) rfl (by kernel_rfl) (by kernel_rfl) (by kernel_rfl) (fun _ _ _ h => h) (Or.inl ⟨by rfl, ?_⟩) (by assumption) ?_
                rotate_left
                · (intro w hSw; (try dsimp only at hSw); obtain ⟨s0, s1, s2, s3, s4, s5⟩ := hSw; go_simp) <;> with_reducible rfl
                try simp only [Act.put, List.setIfInBounds_toArray, List.set_cons_zero, List.set_cons_succ]
                refine wpAnyH_take (i := 9) (oi := { dst := some 127, op := Op.fieldAddr 37 (Operand.tmp 126) 3, type := 0, pos := "law.go:73", after := #[{ on := 8, ground := Ground.data }, { on := 0, ground := Ground.phase }, { on := 1, ground := Ground.phase }, { on := 2, ground := Ground.phase }, { on := 3, ground := Ground.phase }, { on := 4, ground := Ground.phase }, { on := 5, ground := Ground.phase }, { on := 6, ground := Ground.phase }, { on := 7, ground := Ground.phase }], guard := none }) (v := ?_) rfl (by kernel_rfl) (by kernel_rfl) (by kernel_rfl) (fun _ _ _ h => h) (Or.inl ⟨by rfl, ?_⟩) (by assumption) ?_
                rotate_left
                · (intro w hSw; (try dsimp only at hSw); obtain ⟨s0, s1, s2, s3, s4, s5⟩ := hSw; go_simp) <;> with_reducible rfl
                try simp only [Act.put, List.setIfInBounds_toArray, List.set_cons_zero, List.set_cons_succ]
                refine wpAnyH_ready (rs := [10]) (by kernel_rfl) (by simp) ?_
                refine AllReadyH.cons (o := { dst := none, op := Op.store 35 (Operand.tmp 127) (Operand.tmp 125), type := 0, pos := "law.go:73", after := #[{ on := 9, ground := Ground.data }, { on := 7, ground := Ground.data }, { on := 7, ground := Ground.chain }, { on := 0, ground := Ground.phase }, { on := 1, ground := Ground.phase }, { on := 2, ground := Ground.phase }, { on := 3, ground := Ground.phase }, { on := 4, ground := Ground.phase }, { on := 5, ground := Ground.phase }, { on := 6, ground := Ground.phase }, { on := 7, ground := Ground.phase }], guard := none }) rfl (fun K hK => ?_) AllReadyH.nil
                go_simp
                obtain ⟨w8, hw8⟩ : ∃ w8, w8 = w7.setCell ⟨R.x, 3, none⟩ (.slice ka8 kn8 kc8) := ⟨_, rfl⟩
                rw [← hw8]
                rw [← hw8] at H8
                have g8 : SbQ w8 R.x c zf zt (.slice za zbs.length zc) zsp := by obtain ⟨_, own9, q1, q2⟩ := H8.out; exact SbQ.of q1 q2
                clear hw8 hHeld
                refine hK.out _ _ g8 (fun hHeld => ?_)
                clear hK K
                refine wpAnyH_done (by kernel_rfl) ?_ _
                clear hHeld
                all_goals (go_wp2_with fail)
                all_goals go_meet
                all_goals exact ⟨rfl, H8.out.1⟩
              · go_simp
                obtain ⟨w6, hw6⟩ : ∃ w6, w6 = (wc.alloc (.cells #[.int .i8 zf, .int .i8 zt, .slice za zbs.length zc, .bool zsp] 72)).drew := ⟨_, rfl⟩
                obtain ⟨O, hO⟩ : ∃ O, O = wc.heap.size := ⟨_, rfl⟩
                have H6 : Hid (Kept wc w6 (fun _ => False) ∧ w6.heap[O]? = some (.cells #[.int .i8 zf, .int .i8 zt, .slice za zbs.length zc, .bool zsp] 72 (0, 0))) := by
                  rw [hw6, hO]
                  exact ⟨((Kept.refl _ _).alloc _).drewN 1, heap_alloc_new wc _⟩
                rw [← hw6, ← hO]
                have g6 : SbQ w6 R.x c zf zt (.slice za zbs.length zc) zsp := g0.kept (V := wc.drew) (show Kept wc.drew w6 (fun _ => False) from ⟨H6.out.1.os, H6.out.1.tape, H6.out.1.output, H6.out.1.size, H6.out.1.block⟩) id
                have xb : w6.cell? ⟨R.x, 3, none⟩ = some (.slice la R.T.length lc) := H6.out.1.cell x3 id
                clear hw6 hO hHeld
                refine hK.out _ _ g6 (fun hHeld => ?_)
                clear hK K
                refine wpAnyH_ready (rs := [4]) (by kernel_rfl) (by simp) ?_
                refine AllReadyH.cons (o := { dst := some 122, op := Op.load 35 (Operand.tmp 121), type := 35, pos := "law.go:73", after := #[{ on := 3, ground := Ground.data }], guard := none }) rfl (fun K hK => ?_) AllReadyH.nil
                go_simp
                refine hK.out _ _ hHeld (fun hHeld => ?_)
                clear hK K
                refine wpAnyH_ready (rs := [7]) (by kernel_rfl) (by simp) ?_
                refine AllReadyH.cons (o := { dst := some 125, op := Op.call { callee := Callee.builtin Builtin.append, args := #[Operand.tmp 122, Operand.tmp 124], argTypes := #[35, 35] }, type := 35, pos := "law.go:73", after := #[{ on := 4, ground := Ground.data }, { on := 6, ground := Ground.data }], guard := none }) rfl (fun K hK => ?_) AllReadyH.nil
                have HT7 : Pq w6 own3 p { R with v := v1, l := l1, V := V2, L := L2, kv := .slice ka3 kn3 kc3, K := R.K ++ [⟨yf, yt, .slice ya ybs.length yc, ybs, ysp⟩] } := HT6.out.1.new H6.out.1
                obtain ⟨ka8, kn8, kc8, w7, hr7, xc, xf, xz, hk7, own4, hq3, hs3⟩ := HT7.addW (y := ⟨zf, zt, .slice za zbs.length zc, zbs, zsp⟩) (Owns.kept HT6.out.2.2.2.1 H6.out.1 (fun _ _ => id)) HT6.out.2.2.2.2 H6.out.2 (by show R.T.length ≤ _; rw [HTl.out]; omega)
                have xc : w7.cell? ⟨R.x, 3, none⟩ = some R.wv := xc
                have xf : w7.frozen? ⟨R.x, 3, none⟩ = false := xf
                have xz : R.x < w7.heap.size := xz
                have hr7 : ∀ ty, (Builtin.append_ #[35, 35] ty #[R.wv, .slice (some ⟨O, 0, none⟩) 1 1]).run Tryd.prog w6 = .ok (.slice ka8 kn8 kc8) w7 := hr7
                rw [hlv] at xc hr7
                have H8 : Hid (DoQ W0 (w7.setCell ⟨R.x, 3, none⟩ (.slice ka8 kn8 kc8)) own0 p R ∧ ∃ own3, BXm W0 (w7.setCell ⟨R.x, 3, none⟩ (.slice ka8 kn8 kc8)) own3 p c ⟨zf, zt, .slice za zbs.length zc, zbs, zsp⟩ ∧ R.x < (w7.setCell ⟨R.x, 3, none⟩ (.slice ka8 kn8 kc8)).heap.size) :=
                  ⟨⟨own4, _, hq3, HC2.out.1, HP.out.2.app HC2.out.2.2.1, rfl, HC2.out.2.1, by simp, (HT6.out.2.1.trans (Stp.new H6.out.1)).trans hs3⟩, own4, (HT6.out.2.2.1.new H6.out.1).stp hs3, lt_of_block hq3.row⟩
                refine (if_pos (by kernel_rfl)).mpr ?_
                refine wp_appR _ _ 35 rfl _ _ _ w7 rfl rfl (hr7 _) ?_
                have g7 : SbQ w7 R.x c zf zt (.slice za zbs.length zc) zsp := hHeld.kept hk7 (fun e => by have h5 : own3 c = 10 * p + 5 := HT7.owr _ e; have := HT6.out.2.2.1.no; omega)
                clear hq3 hs3 hk7 HT7 hr7 hHeld
                refine hK.out _ _ g7 (fun hHeld => ?_)
                clear hK K
                refine wpAnyH_take (i := 8) (oi := { dst := some 126, op := Op.nilCheck (Operand.tmp 118), type := 0, pos := "law.go:73", after := #[{ on := 0, ground := Ground.data }, { on := 0, ground := Ground.phase }, { on := 1, ground := Ground.phase }, { on := 2, ground := Ground.phase }, { on := 3, ground := Ground.phase }, { on := 4, ground := Ground.phase }, { on := 5, ground := Ground.phase }, { on := 6, ground := Ground.phase }, { on := 7, ground := Ground.phase }], guard := none }) (v := ?_) rfl (by kernel_rfl) (by kernel_rfl) (by kernel_rfl) (fun _ _ _ h => h) (Or.inl ⟨by rfl, ?_⟩) (by assumption) ?_
                rotate_left
                · (intro w hSw; (try dsimp only at hSw); obtain ⟨s0, s1, s2, s3, s4, s5⟩ := hSw; go_simp) <;> with_reducible rfl
                try simp only [Act.put, List.setIfInBounds_toArray, List.set_cons_zero, List.set_cons_succ]
                refine wpAnyH_take (i := 9) (oi := { dst := some 127, op := Op.fieldAddr 37 (Operand.tmp 126) 3, type := 0, pos := "law.go:73", after := #[{ on := 8, ground := Ground.data }, { on := 0, ground := Ground.phase }, { on := 1, ground := Ground.phase }, { on := 2, ground := Ground.phase }, { on := 3, ground := Ground.phase }, { on := 4, ground := Ground.phase }, { on := 5, ground := Ground.phase }, { on := 6, ground := Ground.phase }, { on := 7, ground := Ground.phase }], guard := none }) (v := ?_) rfl (by kernel_rfl) (by kernel_rfl) (by kernel_rfl) (fun _ _ _ h => h) (Or.inl ⟨by rfl, ?_⟩) (by assumption) ?_
                rotate_left
                · (intro w hSw; (try dsimp only at hSw); obtain ⟨s0, s1, s2, s3, s4, s5⟩ := hSw; go_simp) <;> with_reducible rfl
                try simp only [Act.put, List.setIfInBounds_toArray, List.set_cons_zero, List.set_cons_succ]
                refine wpAnyH_ready (rs := [10]) (by kernel_rfl) (by simp) ?_
                refine AllReadyH.cons (o := { dst := none, op := Op.store 35 (Operand.tmp 127) (Operand.tmp 125), type := 0, pos := "law.go:73", after := #[{ on := 9, ground := Ground.data }, { on := 7, ground := Ground.data }, { on := 7, ground := Ground.chain }, { on := 0, ground := Ground.phase }, { on := 1, ground := Ground.phase }, { on := 2, ground := Ground.phase }, { on := 3, ground := Ground.phase }, { on := 4, ground := Ground.phase }, { on := 5, ground := Ground.phase }, { on := 6, ground := Ground.phase }, { on := 7, ground := Ground.phase }], guard := none }) rfl (fun K hK => ?_) AllReadyH.nil
                go_simp
                obtain ⟨w8, hw8⟩ : ∃ w8, w8 = w7.setCell ⟨R.x, 3, none⟩ (.slice ka8 kn8 kc8) := ⟨_, rfl⟩
                rw [← hw8]
                rw [← hw8] at H8
                have g8 : SbQ w8 R.x c zf zt (.slice za zbs.length zc) zsp := by obtain ⟨_, own9, q1, q2⟩ := H8.out; exact SbQ.of q1 q2
                clear hw8 hHeld
                refine hK.out _ _ g8 (fun hHeld => ?_)
                clear hK K
                refine wpAnyH_done (by kernel_rfl) ?_ _
                clear hHeld
                all_goals (go_wp2_with fail)
                all_goals go_meet
                all_goals exact ⟨rfl, H8.out.1⟩
            case rest =>
              obtain ⟨rfl, HT⟩ := hcut
              have hee : (er == er) = true := by simp
              clear HT6 x3 zx g0
              go_wp2
              go_ret
              exact ⟨rfl, HOut.out _ HT.out⟩
        · have m2 : (60 : Int) ≤ (R.K.length : Int) := by omega
          have m3 : decide ((R.K.length : Int) < 60) = false := by simp; omega
          clear hm hs
          go_upto_region 17 with fail
          obtain ⟨w6, hw6⟩ : ∃ w6, w6 = w5.alloc (.cells (bagM nilM nilM) 66) := ⟨_, rfl⟩
          obtain ⟨g, hg⟩ : ∃ g, g = w5.heap.size := ⟨_, rfl⟩
          have HK6 : Hid (BagM w6 g nilM nilM [] [] 0 ∧ Kept w5 w6 (fun _ => False) ∧ w5.heap.size ≤ g) := by
            rw [hw6, hg]
            exact ⟨BagM.new (heap_alloc_new _ _), (Kept.refl _ _).alloc _, Nat.le_refl _⟩
          rw [← hw6, ← hg]
          clear hw6 hg
          have b2 := HK6.out.2.1.cell b2 id
          have b4 : b < w6.heap.size := Nat.lt_of_lt_of_le b4 HK6.out.2.1.size
          have HAB : Hid _ := addBytes_m g nilM nilM [] [] 0 ya ybs.length yc w6 HK6.out.1 (by simp) (Nat.zero_le _)
          clear b0 b1 b3 c0 c1 c2 c3 c4 x0 x1 x2 x3 o2 o3 o4 o5 o6 o7 zx zb
          go_wp2_with fail
          refine Calls.mono HAB.out ?_
          rintro _ w7 ⟨rfl, bv7, hbg7, hk7, _⟩
          simp only [List.nil_append] at hbg7
          have HK7 : Hid (BagM w7 g bv7 nilM [⟨ya, ybs.length, yc⟩] [] 0 ∧ Kept w5 w7 (fun _ => False)) := ⟨hbg7, HK6.out.2.1.trans hk7 (fun k hk e => by
            rcases e with e | e
            · have := HK6.out.2.2; omega
            · cases e)⟩
          have HAP : Hid (Calls Tryd.prog 11 #[.pointer (some ⟨g, 0, none⟩)] w7 fun e w' => e = .returned (.bool true) ∧ Kept w5 w' (fun k => own2 k = 10 * p + 7)) := by
            have hyo := Owns.kept HT5.out.1.yo HK7.out.2 (fun _ _ => id)
            have hgl : 0 < W0.heap.size := Nat.lt_of_lt_of_le HG.out.2.1 HST.out.kept.size
            have hg0 : own0 0 / 10 ≠ p := by rw [HST.out.old _ HG.out.2.1 HG.out.2.2]; exact HG.out.2.2
            have hg2 : own2 0 / 10 ≠ p := by rw [HT5.out.1.st.old _ hgl hg0]; exact hg0
            have htab : Tab w7 := tab_same HG.out.1 (((HK7.out.2.block _ (Nat.lt_of_lt_of_le hgl HT5.out.1.st.kept.size) id).trans (HT5.out.1.st.kept.block _ hgl hg0)).trans (HST.out.kept.block _ HG.out.2.1 HG.out.2.2))
            refine Calls.mono (bagApart_m g 0 bv7 nilM [⟨ya, ybs.length, yc⟩] [] (fun _ => []) w7 HK7.out.1 (fun q hq => by simp at hq; subst hq; exact lies_ownM hyo) (fun i j hi hj hij => by simp at hi hj; omega) (by simp) (fun q hq => by simp at hq; subst hq; have h8 : ybs.length ≤ 8192 := HT5.out.1.yl; show ybs.length ≤ _; omega) (fun x hx => ?_) (fun j hj => by simp at hj) (fun i j hi => by simp at hi) (by simp) (fun j hj => by simp at hj) (by rintro ⟨j, hj, _⟩; simp at hj) htab (Nat.lt_of_lt_of_le hgl (Nat.le_trans HT5.out.1.st.kept.size HK7.out.2.size))) ?_
            · obtain ⟨q, hq, e⟩ := feet_ownM hx
              simp at hq
              subst hq
              have := HT5.out.1.yc _ e
              omega
            · rintro e w8 ⟨rfl, w1, hT1, hk1, _⟩
              refine ⟨rfl, ((HK7.out.2.mono (fun _ _ e => e.elim)).trans (turned_keptM hT1) (fun k _ e => ?_)).trans hk1 (fun k _ e => ?_)⟩
              · obtain ⟨q, hq, e⟩ := e
                simp at hq
                subst hq
                exact HT5.out.1.yc _ e
              · obtain ⟨j, hj, _⟩ := e
                simp at hj
          clear hbg7 hk7 HAB HK6 b2 b4
          go_wp2_with fail
          refine Calls.mono HAP.out ?_
          rintro _ w8 ⟨rfl, hk8⟩
          have HQ8 : Hid (Pq w8 own2 p { R with v := v1, l := l1, V := V2, L := L2 } ∧ Stp W0 w8 own0 own2 p) := ⟨HT5.out.1.pq.keep hk8 (fun k _ e => .inr e) (fun _ _ _ => rfl), HT5.out.1.st.trans ⟨hk8.mono (fun k _ e => by omega), fun _ _ _ => rfl⟩⟩
          clear hk8 HAP HK7
          have hk9 : Kept w8 (w8.alloc (.cells zcM 72)) (fun _ => False) := (Kept.refl _ _).alloc _
          obtain ⟨ka3, kn3, kc3, w10, hr10, x2, xf, xz, hk10, own3, hq3, hs3, _⟩ := (HQ8.out.1.new hk9).addK (y := zeroM) (zeroM_own _ _) (fun g e => by cases e) (by show 0 ≤ 8192; omega) (heap_alloc_new w8 _) (by show R.K.length ≤ _; omega)
          have HQ11 : Hid (Pq (w10.setCell ⟨R.x, 2, none⟩ (.slice ka3 kn3 kc3)) own3 p { { R with v := v1, l := l1, V := V2, L := L2 } with kv := .slice ka3 kn3 kc3, K := R.K ++ [zeroM] } ∧ Stp W0 (w10.setCell ⟨R.x, 2, none⟩ (.slice ka3 kn3 kc3)) own0 own3 p) := ⟨hq3, (HQ8.out.2.trans (Stp.new hk9)).trans hs3⟩
          have y2 : w8.cell? ⟨R.x, 2, none⟩ = some R.kv := by rw [cell_of_row _ _ 2 _ _ _ HQ8.out.1.row]; rfl
          have yz : R.x < w8.heap.size := lt_of_block HQ8.out.1.row
          have x2 : w10.cell? ⟨R.x, 2, none⟩ = some R.kv := x2
          have xf : w10.frozen? ⟨R.x, 2, none⟩ = false := xf
          have xz : R.x < w10.heap.size := xz
          have hr10 : ∀ ty, (Builtin.append_ #[35, 35] ty #[R.kv, .slice (some ⟨w8.heap.size, 0, none⟩) 1 1]).run Tryd.prog (w8.alloc (.cells zcM 72)) = .ok (.slice ka3 kn3 kc3) w10 := hr10
          rw [hkv] at x2 y2 hr10
          clear hq3 hs3 hk9 hk10
          go_upto_region 20 with (at_builtin; refine wpList_appM _ rfl _ _ 35 rfl _ _ rfl rfl (hr10 _) ?_)
          obtain ⟨w11, hw11⟩ : ∃ w11, w11 = w10.setCell ⟨R.x, 2, none⟩ (.slice ka3 kn3 kc3) := ⟨_, rfl⟩
          rw [← hw11]
          rw [← hw11] at HQ11
          clear hw11 hr10 x2 xf xz y2 yz
          have hk12 : Kept w11 (w11.alloc (.cells zcM 72)) (fun _ => False) := (Kept.refl _ _).alloc _
          obtain ⟨la, lc, hlv⟩ := rowSl HT5.out.1.pq.wo.row
          have hlv : R.wv = .slice la R.T.length lc := hlv
          have HTl : Hid (R.T.length = R.K.length) := HP.out.2.1.symm
          obtain ⟨ka4, kn4, kc4, w13, hr13, x3, xf, xz, hk13, own4, hq4, hs4⟩ := (HQ11.out.1.new hk12).addW (y := zeroM) (zeroM_own _ _) (fun g e => by cases e) (heap_alloc_new w11 _) (by show R.T.length ≤ _; rw [HTl.out]; omega)
          have y3 : w11.cell? ⟨R.x, 3, none⟩ = some R.wv := by rw [cell_of_row _ _ 3 _ _ _ HQ11.out.1.row]; rfl
          have yz : R.x < w11.heap.size := lt_of_block HQ11.out.1.row
          have x3 : w13.cell? ⟨R.x, 3, none⟩ = some R.wv := x3
          have xf : w13.frozen? ⟨R.x, 3, none⟩ = false := xf
          have xz : R.x < w13.heap.size := xz
          have hr13 : ∀ ty, (Builtin.append_ #[35, 35] ty #[R.wv, .slice (some ⟨w11.heap.size, 0, none⟩) 1 1]).run Tryd.prog (w11.alloc (.cells zcM 72)) = .ok (.slice ka4 kn4 kc4) w13 := hr13
          rw [hlv] at x3 y3 hr13
          have HE : Hid (DoQ W0 (w13.setCell ⟨R.x, 3, none⟩ (.slice ka4 kn4 kc4)) own0 p R) := ⟨own4, _, hq4, HC2.out.1, HP.out.2.app ⟨rfl, rfl, rfl, rfl⟩, rfl, HC2.out.2.1, by simp, (HQ11.out.2.trans (Stp.new hk12)).trans hs4⟩
          have hee : (er == er) = true := by simp
          clear hq4 hs4 hk12 hk13 HQ11 HQ8 HT5
          go_wp2_with (at_builtin; refine wpList_appM _ rfl _ _ 35 rfl _ _ rfl rfl (hr13 _) ?_)
          go_ret
          exact ⟨rfl, HOut.out _ HE.out⟩
      · have m1 : ¬ (R.K.length : Int) % 2 = 0 := by omega
        clear hm
        go_upto_region 17 with fail
        obtain ⟨w6, hw6⟩ : ∃ w6, w6 = w5.alloc (.cells (bagM nilM nilM) 66) := ⟨_, rfl⟩
        obtain ⟨g, hg⟩ : ∃ g, g = w5.heap.size := ⟨_, rfl⟩
        have HK6 : Hid (BagM w6 g nilM nilM [] [] 0 ∧ Kept w5 w6 (fun _ => False) ∧ w5.heap.size ≤ g) := by
          rw [hw6, hg]
          exact ⟨BagM.new (heap_alloc_new _ _), (Kept.refl _ _).alloc _, Nat.le_refl _⟩
        rw [← hw6, ← hg]
        clear hw6 hg
        have b2 := HK6.out.2.1.cell b2 id
        have b4 : b < w6.heap.size := Nat.lt_of_lt_of_le b4 HK6.out.2.1.size
        have HAB : Hid _ := addBytes_m g nilM nilM [] [] 0 ya ybs.length yc w6 HK6.out.1 (by simp) (Nat.zero_le _)
        clear b0 b1 b3 c0 c1 c2 c3 c4 x0 x1 x2 x3 o2 o3 o4 o5 o6 o7 zx zb
        go_wp2_with fail
        refine Calls.mono HAB.out ?_
        rintro _ w7 ⟨rfl, bv7, hbg7, hk7, _⟩
        simp only [List.nil_append] at hbg7
        have HK7 : Hid (BagM w7 g bv7 nilM [⟨ya, ybs.length, yc⟩] [] 0 ∧ Kept w5 w7 (fun _ => False)) := ⟨hbg7, HK6.out.2.1.trans hk7 (fun k hk e => by
          rcases e with e | e
          · have := HK6.out.2.2; omega
          · cases e)⟩
        have HAP : Hid (Calls Tryd.prog 11 #[.pointer (some ⟨g, 0, none⟩)] w7 fun e w' => e = .returned (.bool true) ∧ Kept w5 w' (fun k => own2 k = 10 * p + 7)) := by
          have hyo := Owns.kept HT5.out.1.yo HK7.out.2 (fun _ _ => id)
          have hgl : 0 < W0.heap.size := Nat.lt_of_lt_of_le HG.out.2.1 HST.out.kept.size
          have hg0 : own0 0 / 10 ≠ p := by rw [HST.out.old _ HG.out.2.1 HG.out.2.2]; exact HG.out.2.2
          have hg2 : own2 0 / 10 ≠ p := by rw [HT5.out.1.st.old _ hgl hg0]; exact hg0
          have htab : Tab w7 := tab_same HG.out.1 (((HK7.out.2.block _ (Nat.lt_of_lt_of_le hgl HT5.out.1.st.kept.size) id).trans (HT5.out.1.st.kept.block _ hgl hg0)).trans (HST.out.kept.block _ HG.out.2.1 HG.out.2.2))
          refine Calls.mono (bagApart_m g 0 bv7 nilM [⟨ya, ybs.length, yc⟩] [] (fun _ => []) w7 HK7.out.1 (fun q hq => by simp at hq; subst hq; exact lies_ownM hyo) (fun i j hi hj hij => by simp at hi hj; omega) (by simp) (fun q hq => by simp at hq; subst hq; have h8 : ybs.length ≤ 8192 := HT5.out.1.yl; show ybs.length ≤ _; omega) (fun x hx => ?_) (fun j hj => by simp at hj) (fun i j hi => by simp at hi) (by simp) (fun j hj => by simp at hj) (by rintro ⟨j, hj, _⟩; simp at hj) htab (Nat.lt_of_lt_of_le hgl (Nat.le_trans HT5.out.1.st.kept.size HK7.out.2.size))) ?_
          · obtain ⟨q, hq, e⟩ := feet_ownM hx
            simp at hq
            subst hq
            have := HT5.out.1.yc _ e
            omega
          · rintro e w8 ⟨rfl, w1, hT1, hk1, _⟩
            refine ⟨rfl, ((HK7.out.2.mono (fun _ _ e => e.elim)).trans (turned_keptM hT1) (fun k _ e => ?_)).trans hk1 (fun k _ e => ?_)⟩
            · obtain ⟨q, hq, e⟩ := e
              simp at hq
              subst hq
              exact HT5.out.1.yc _ e
            · obtain ⟨j, hj, _⟩ := e
              simp at hj
        clear hbg7 hk7 HAB HK6 b2 b4
        go_wp2_with fail
        refine Calls.mono HAP.out ?_
        rintro _ w8 ⟨rfl, hk8⟩
        have HQ8 : Hid (Pq w8 own2 p { R with v := v1, l := l1, V := V2, L := L2 } ∧ Stp W0 w8 own0 own2 p) := ⟨HT5.out.1.pq.keep hk8 (fun k _ e => .inr e) (fun _ _ _ => rfl), HT5.out.1.st.trans ⟨hk8.mono (fun k _ e => by omega), fun _ _ _ => rfl⟩⟩
        clear hk8 HAP HK7
        have hk9 : Kept w8 (w8.alloc (.cells zcM 72)) (fun _ => False) := (Kept.refl _ _).alloc _
        obtain ⟨ka3, kn3, kc3, w10, hr10, x2, xf, xz, hk10, own3, hq3, hs3, _⟩ := (HQ8.out.1.new hk9).addK (y := zeroM) (zeroM_own _ _) (fun g e => by cases e) (by show 0 ≤ 8192; omega) (heap_alloc_new w8 _) (by show R.K.length ≤ _; omega)
        have HQ11 : Hid (Pq (w10.setCell ⟨R.x, 2, none⟩ (.slice ka3 kn3 kc3)) own3 p { { R with v := v1, l := l1, V := V2, L := L2 } with kv := .slice ka3 kn3 kc3, K := R.K ++ [zeroM] } ∧ Stp W0 (w10.setCell ⟨R.x, 2, none⟩ (.slice ka3 kn3 kc3)) own0 own3 p) := ⟨hq3, (HQ8.out.2.trans (Stp.new hk9)).trans hs3⟩
        have y2 : w8.cell? ⟨R.x, 2, none⟩ = some R.kv := by rw [cell_of_row _ _ 2 _ _ _ HQ8.out.1.row]; rfl
        have yz : R.x < w8.heap.size := lt_of_block HQ8.out.1.row
        have x2 : w10.cell? ⟨R.x, 2, none⟩ = some R.kv := x2
        have xf : w10.frozen? ⟨R.x, 2, none⟩ = false := xf
        have xz : R.x < w10.heap.size := xz
        have hr10 : ∀ ty, (Builtin.append_ #[35, 35] ty #[R.kv, .slice (some ⟨w8.heap.size, 0, none⟩) 1 1]).run Tryd.prog (w8.alloc (.cells zcM 72)) = .ok (.slice ka3 kn3 kc3) w10 := hr10
        rw [hkv] at x2 y2 hr10
        clear hq3 hs3 hk9 hk10
        go_upto_region 20 with (at_builtin; refine wpList_appM _ rfl _ _ 35 rfl _ _ rfl rfl (hr10 _) ?_)
        obtain ⟨w11, hw11⟩ : ∃ w11, w11 = w10.setCell ⟨R.x, 2, none⟩ (.slice ka3 kn3 kc3) := ⟨_, rfl⟩
        rw [← hw11]
        rw [← hw11] at HQ11
        clear hw11 hr10 x2 xf xz y2 yz
        have hk12 : Kept w11 (w11.alloc (.cells zcM 72)) (fun _ => False) := (Kept.refl _ _).alloc _
        obtain ⟨la, lc, hlv⟩ := rowSl HT5.out.1.pq.wo.row
        have hlv : R.wv = .slice la R.T.length lc := hlv
        have HTl : Hid (R.T.length = R.K.length) := HP.out.2.1.symm
        obtain ⟨ka4, kn4, kc4, w13, hr13, x3, xf, xz, hk13, own4, hq4, hs4⟩ := (HQ11.out.1.new hk12).addW (y := zeroM) (zeroM_own _ _) (fun g e => by cases e) (heap_alloc_new w11 _) (by show R.T.length ≤ _; rw [HTl.out]; omega)
        have y3 : w11.cell? ⟨R.x, 3, none⟩ = some R.wv := by rw [cell_of_row _ _ 3 _ _ _ HQ11.out.1.row]; rfl
        have yz : R.x < w11.heap.size := lt_of_block HQ11.out.1.row
        have x3 : w13.cell? ⟨R.x, 3, none⟩ = some R.wv := x3
        have xf : w13.frozen? ⟨R.x, 3, none⟩ = false := xf
        have xz : R.x < w13.heap.size := xz
        have hr13 : ∀ ty, (Builtin.append_ #[35, 35] ty #[R.wv, .slice (some ⟨w11.heap.size, 0, none⟩) 1 1]).run Tryd.prog (w11.alloc (.cells zcM 72)) = .ok (.slice ka4 kn4 kc4) w13 := hr13
        rw [hlv] at x3 y3 hr13
        have HE : Hid (DoQ W0 (w13.setCell ⟨R.x, 3, none⟩ (.slice ka4 kn4 kc4)) own0 p R) := ⟨own4, _, hq4, HC2.out.1, HP.out.2.app ⟨rfl, rfl, rfl, rfl⟩, rfl, HC2.out.2.1, by simp, (HQ11.out.2.trans (Stp.new hk12)).trans hs4⟩
        have hee : (er == er) = true := by simp
        clear hq4 hs4 hk12 hk13 HQ11 HQ8 HT5
        go_wp2_with (at_builtin; refine wpList_appM _ rfl _ _ 35 rfl _ _ rfl rfl (hr13 _) ?_)
        go_ret
        exact ⟨rfl, HOut.out _ HE.out⟩

end
end Go.Proofs.YtghngopclhhoeaaDoor
