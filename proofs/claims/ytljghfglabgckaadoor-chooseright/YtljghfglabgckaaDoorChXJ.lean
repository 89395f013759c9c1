/- ChooseRight of the statements of layer 14, walked: true for all that came in. -/
import Derived.Test.YtljghfglabgckaaDoorChEJ
import Derived.Test.YtljghfglabgckaaDoorChIJ
import Derived.Test.YtljghfglabgckaaDoorChYJ
import Derived.Test.YtljghfglabgckaaDoorCopyFJ
import Derived.Test.YtljghfglabgckaaDoorWdLJ
import Derived.Deep.CutRange
import Derived.Deep.DeepCutAuto
namespace Go.Proofs.YtljghfglabgckaaDoor
open Go.RowKit
set_option maxRecDepth 8000

/-- The pair in its place, nothing older changed. -/
structure RtR (w W : World) (row : Array Value) : Prop where
  bel : Below w.heap.size w W
  row : W.heap[w.heap.size]? = some (.cells row 25 (0, 0))

theorem RtR.later {w W W' : World} {row : Array Value} (h : RtR w W row) (hb : Below W.heap.size W W') : RtR w W' row :=
  ⟨h.bel.trans (hb.mono h.bel.size), (Below.kept hb).heap h.row (by have := lt_of_block h.row; omega)⟩

/-- The pair and the smallest zxid, in their places. -/
structure RtS (w W : World) (row : Array Value) (y0 : Nat) : Prop where
  r : RtR w W row
  a : W.heap[y0]? = some (.cells #[.int .u32 0, .int .u32 0] 30 (0, 0))

theorem RtS.later {w W W' : World} {row : Array Value} {y0 : Nat} (h : RtS w W row y0) (hb : Below W.heap.size W W') : RtS w W' row y0 :=
  ⟨h.r.later hb, (Below.kept hb).heap h.a (by have := lt_of_block h.a; omega)⟩

/-- A choice in its place, behind what came in. -/
structure RtC (w W : World) (y1 : Nat) (cs : Array Value) : Prop where
  lt : w.heap.size < y1
  row : W.heap[y1]? = some (.cells cs 33 (0, 0))

theorem RtC.later {w W W' : World} {y1 : Nat} {cs : Array Value} (h : RtC w W y1 cs) (hb : Below W.heap.size W W') : RtC w W' y1 cs :=
  ⟨h.lt, (Below.kept hb).heap h.row (by have := lt_of_block h.row; omega)⟩

theorem hidI {p : Prop} (h : p) : Hid p := h

theorem RtC.new {w W : World} {row : Array Value} {y0 : Nat} (h : RtS w W row y0) : RtC w (W.alloc (.cells chZ 33)) W.heap.size chZ := ⟨lt_of_block h.r.row, heap_alloc_new _ _⟩

theorem RtC.newC {w W : World} {row : Array Value} {y0 : Nat} (h : RtS w W row y0) (C : ChD) : RtC w (W.alloc (.cells (chA C) 33)) W.heap.size (chA C) := ⟨lt_of_block h.r.row, heap_alloc_new _ _⟩

theorem rt_ne {w W : World} {row cs : Array Value} {y0 y1 : Nat} (h : RtS w W row y0) (g : RtC w W y1 cs) : y0 ≠ y1 := fun e => by
  have a := h.a
  have b := g.row
  rw [e, b] at a
  simp at a

/-- A choice is laid down in its place. -/
theorem rtSet {w W : World} {row : Array Value} {y0 y1 : Nat} (h : RtS w W row y0) (g : RtC w W y1 chZ) (hne : y0 ≠ y1) (C : ChD) :
    RtS w ((((W.setCell ⟨y1, 0, none⟩ (.int .i8 C.way)).setCell ⟨y1, 1, none⟩ (.int .u32 C.fe)).setCell ⟨y1, 2, none⟩ (.int .u32 C.fn)).setCell ⟨y1, 3, none⟩ (.bool C.near)) row y0 ∧ RtC w ((((W.setCell ⟨y1, 0, none⟩ (.int .i8 C.way)).setCell ⟨y1, 1, none⟩ (.int .u32 C.fe)).setCell ⟨y1, 2, none⟩ (.int .u32 C.fn)).setCell ⟨y1, 3, none⟩ (.bool C.near)) y1 (chA C) := by
  have k : Kept W ((((W.setCell ⟨y1, 0, none⟩ (.int .i8 C.way)).setCell ⟨y1, 1, none⟩ (.int .u32 C.fe)).setCell ⟨y1, 2, none⟩ (.int .u32 C.fn)).setCell ⟨y1, 3, none⟩ (.bool C.near)) (fun k => k = y1) :=
    ((((Kept.refl W (fun k => k = y1)).setCell ⟨y1, 0, none⟩ _ (fun _ => rfl)).setCell ⟨y1, 1, none⟩ _ (fun _ => rfl)).setCell ⟨y1, 2, none⟩ _ (fun _ => rfl)).setCell ⟨y1, 3, none⟩ _ (fun _ => rfl)
  have hl := g.lt
  exact ⟨⟨⟨four_kept y1 (by omega) h.r.bel _ _ _ _, k.heap h.r.row (by omega)⟩, k.heap h.a (by omega)⟩, g.lt, heap_setR _ (heap_setR _ (heap_setR _ (heap_setR _ g.row)))⟩

theorem RtS.held {w W : World} {va vb a b c : Value} {y0 : Nat} (h : RtS w W #[va, vb, a, b, c] y0) :
    W.cell? ⟨w.heap.size, 0, none⟩ = some va ∧ W.cell? ⟨w.heap.size, 1, none⟩ = some vb ∧ W.cell? ⟨w.heap.size, 2, none⟩ = some a ∧ W.cell? ⟨w.heap.size, 3, none⟩ = some b ∧ W.cell? ⟨w.heap.size, 4, none⟩ = some c ∧ W.cell? ⟨y0, 0, none⟩ = some (.int .u32 0) ∧ W.cell? ⟨y0, 1, none⟩ = some (.int .u32 0) :=
  ⟨cellAt h.r.row rfl, cellAt h.r.row rfl, cellAt h.r.row rfl, cellAt h.r.row rfl, cellAt h.r.row rfl, cellAt h.a rfl, cellAt h.a rfl⟩

/-- What Way answers where all is right: by an image, or what is sent behind From. -/
theorem right_C {pe pn : Int} {la : List TxD} {ca im : Int} {x : Nat} (hr : rises 0 0 la = true) (h1 : 0 ≤ ca) (h2 : ca ≤ (la.length : Int)) (h3 : 0 ≤ im) :
    (∃ a b, chW pe pn 0 0 la ca im x = ⟨4, a, b, false, 0⟩) ∨ ∃ nr, chW pe pn 0 0 la ca im x = ⟨sendW (decide (lstE 0 la (upN pe pn la) = pe ∧ lstN 0 la (upN pe pn la) = pn)) (la.length - upN pe pn la), lstE 0 la (upN pe pn la), lstN 0 la (upN pe pn la), nr, 0⟩ := by
  unfold chW
  rw [if_neg (by rintro (h | h | h | h); (· rw [hr] at h; cases h); all_goals omega)]
  split
  · exact .inl ⟨_, _, rfl⟩
  unfold chN
  split
  · exact .inr ⟨_, rfl⟩
  split
  · exact .inr ⟨_, rfl⟩
  · exact .inl ⟨_, _, rfl⟩

theorem sendW_le (b : Bool) (n : Nat) : sendW b n = 1 ∨ sendW b n = 2 ∨ sendW b n = 3 := by
  unfold sendW
  split
  · exact .inl rfl
  split
  · exact .inr (.inl rfl)
  · exact .inr (.inr rfl)

set_option maxHeartbeats 4000000 in
theorem right_walk (va vb : Value) (la lb : List TxD) (ca im : Int) (x : Nat) (w : World) (hn : Nam w) (h : SeesTxs w va la) (hg : ∀ t ∈ la, t.good) (h' : SeesTxs w vb lb) (hg' : ∀ t ∈ lb, t.good) :
    Calls Tryd.prog 3 #[.agg (pairA va vb ca im x)] w fun r w' => r = .returned (.bool true) ∧ Below w.heap.size w w' := by
  obtain ⟨ax, cx, rfl, hx1, hx2⟩ := txs_shape h
  obtain ⟨ay, cy, rfl, hy1, hy2⟩ := txs_shape h'
  unfold maxLen at hx2 hy2
  have H : Hid (SeesTxs w (.slice ax la.length cx) la ∧ SeesTxs w (.slice ay lb.length cy) lb ∧ (∀ t ∈ la, t.good) ∧ (∀ t ∈ lb, t.good) ∧ Nam w) := ⟨h, h', hg, hg', hn⟩
  clear h h' hg hg' hn
  go_enter Tryd.func3, Tryd.ntmps3
  go_wp2_with fail
  have hb0 := one_alloc w (.cells (pairA (.slice ax la.length cx) (.slice ay lb.length cy) ca im x) 25)
  refine (largeTxns_any _ la _ (H.out.1.below hb0 (Nat.le_refl _)) H.out.2.2.1).mono ?_
  rintro _ w1 ⟨bl, rfl, hbl, b1⟩
  have r1 := (Below.kept b1).heap (heap_alloc_new w (.cells (pairA (.slice ax la.length cx) (.slice ay lb.length cy) ca im x) 25)) (by simp)
  have H1 : Hid (RtR w w1 #[.slice ax la.length cx, .slice ay lb.length cy, .int .i64 ca, .int .i64 im, .float .f64 x]) := ⟨hb0.trans (b1.mono hb0.size), r1⟩
  clear hb0 b1 r1
  cases bl
  rotate_left
  · go_wp2_with fail
    go_ret
    exact ⟨rfl, H1.out.bel⟩
  have HLa : Hid (la.length ≤ 1000000 ∧ ∀ t ∈ la, t.rq.parts ≤ 20000) := hbl rfl
  clear hbl
  have c1 : w1.cell? ⟨w.heap.size, 1, none⟩ = some (.slice ay lb.length cy) := cellAt H1.out.row rfl
  go_wp2_with fail
  refine (largeTxns_any _ lb _ (H.out.2.1.below H1.out.bel (Nat.le_refl _)) H.out.2.2.2.1).mono ?_
  rintro _ w2 ⟨bl, rfl, hbl, b2⟩
  have H2 : Hid (RtR w w2 #[.slice ax la.length cx, .slice ay lb.length cy, .int .i64 ca, .int .i64 im, .float .f64 x]) := H1.out.later b2
  clear b2 H1 c1
  cases bl
  rotate_left
  · go_wp2_with fail
    go_ret
    exact ⟨rfl, H2.out.bel⟩
  have HLb : Hid (lb.length ≤ 1000000 ∧ ∀ t ∈ lb, t.rq.parts ≤ 20000) := hbl rfl
  clear hbl
  go_wp2_with fail
  refine (lives14_any _ (H.out.2.2.2.2.below H2.out.bel H.out.2.2.2.2.lt)).mono ?_
  rintro _ w3 ⟨rfl, b3⟩
  have H3 : Hid (RtR w w3 #[.slice ax la.length cx, .slice ay lb.length cy, .int .i64 ca, .int .i64 im, .float .f64 x]) := H2.out.later b3
  clear b3 H2
  obtain ⟨y0, hy0⟩ : ∃ y0, y0 = w3.heap.size := ⟨_, rfl⟩
  obtain ⟨w4, hw4⟩ : ∃ w4, w4 = w3.alloc (.cells #[.int .u32 0, .int .u32 0] 30) := ⟨_, rfl⟩
  have H4 : Hid (RtS w w4 #[.slice ax la.length cx, .slice ay lb.length cy, .int .i64 ca, .int .i64 im, .float .f64 x] y0) := by
    subst hw4; subst hy0
    exact ⟨H3.out.later (one_alloc _ _), heap_alloc_new _ _⟩
  have HE4 : Hid (w4 = w3.alloc (.cells #[.int .u32 0, .int .u32 0] 30) ∧ y0 = w3.heap.size) := ⟨hw4, hy0⟩
  clear hw4 hy0 H3
  go_upto_region 5 with fail
  rw [← HE4.out.1, ← HE4.out.2]
  clear HE4
  obtain ⟨C, hC⟩ : ∃ C, C = chW (lstE 0 lb lb.length) (lstN 0 lb lb.length) 0 0 la ca im x := ⟨_, rfl⟩
  have HC : Hid _ := hC
  clear hC
  go_cut [5, 6] from 24 to 40 (fun p e wx => ∃ y1, p = .pointer (some ⟨y1, 0, none⟩) ∧ e = .int .i64 C.err ∧ RtS w wx #[.slice ax la.length cx, .slice ay lb.length cy, .int .i64 ca, .int .i64 im, .float .f64 x] y0 ∧ RtC w wx y1 (chA C))
  case first =>
    have S0 : Hid (RtS w w4.drew #[.slice ax la.length cx, .slice ay lb.length cy, .int .i64 ca, .int .i64 im, .float .f64 x] y0) := H4.out.later (below_drewN (Below.refl _ _) 1)
    refine wp_region_held_drew (S := (fun W => W.cell? ⟨w.heap.size, 0, none⟩ = some (.slice ax la.length cx) ∧ W.cell? ⟨w.heap.size, 1, none⟩ = some (.slice ay lb.length cy) ∧ W.cell? ⟨w.heap.size, 2, none⟩ = some (.int .i64 ca) ∧ W.cell? ⟨w.heap.size, 3, none⟩ = some (.int .i64 im) ∧ W.cell? ⟨w.heap.size, 4, none⟩ = some (.float .f64 x) ∧ W.cell? ⟨y0, 0, none⟩ = some (.int .u32 0) ∧ W.cell? ⟨y0, 1, none⟩ = some (.int .u32 0))) (by kernel_rfl) ?_ (fun hHeld => ?_)
    · exact S0.out.held
    refine wpAnyH_take (i := 0) (oi := { dst := some 25, op := Op.load 30 (Operand.tmp 4), type := 30, pos := "law.go:132", after := #[], guard := none }) (v := ?_) rfl (by kernel_rfl) (by kernel_rfl) (by kernel_rfl) (fun _ _ _ h => h) (Or.inl ⟨by rfl, ?_⟩) (by assumption) ?_
    rotate_left
    · (intro w hSw; (try dsimp only at hSw); go_simp) <;> with_reducible rfl
    try simp only [Act.put, List.setIfInBounds_toArray, List.set_cons_zero, List.set_cons_succ]
    refine wpAnyH_take (i := 1) (oi := { dst := some 26, op := Op.fieldAddr 25 (Operand.tmp 1) 1, type := 0, pos := "law.go:132", after := #[], guard := none }) (v := ?_) rfl (by kernel_rfl) (by kernel_rfl) (by kernel_rfl) (fun _ _ _ h => h) (Or.inl ⟨by rfl, ?_⟩) (by assumption) ?_
    rotate_left
    · (intro w hSw; (try dsimp only at hSw); go_simp) <;> with_reducible rfl
    try simp only [Act.put, List.setIfInBounds_toArray, List.set_cons_zero, List.set_cons_succ]
    refine wpAnyH_take (i := 2) (oi := { dst := some 27, op := Op.load 22 (Operand.tmp 26), type := 22, pos := "law.go:132", after := #[{ on := 1, ground := Ground.data }], guard := none }) (v := ?_) rfl (by kernel_rfl) (by kernel_rfl) (by kernel_rfl) (fun _ _ _ h => h) (Or.inl ⟨by rfl, ?_⟩) (by assumption) ?_
    rotate_left
    · (intro w hSw; (try dsimp only at hSw); go_simp) <;> with_reducible rfl
    try simp only [Act.put, List.setIfInBounds_toArray, List.set_cons_zero, List.set_cons_succ]
    refine wpAnyH_take (i := 4) (oi := { dst := some 29, op := Op.load 30 (Operand.tmp 4), type := 30, pos := "law.go:132", after := #[], guard := none }) (v := ?_) rfl (by kernel_rfl) (by kernel_rfl) (by kernel_rfl) (fun _ _ _ h => h) (Or.inl ⟨by rfl, ?_⟩) (by assumption) ?_
    rotate_left
    · (intro w hSw; (try dsimp only at hSw); go_simp) <;> with_reducible rfl
    try simp only [Act.put, List.setIfInBounds_toArray, List.set_cons_zero, List.set_cons_succ]
    refine wpAnyH_take (i := 5) (oi := { dst := some 30, op := Op.fieldAddr 25 (Operand.tmp 1) 0, type := 0, pos := "law.go:132", after := #[], guard := none }) (v := ?_) rfl (by kernel_rfl) (by kernel_rfl) (by kernel_rfl) (fun _ _ _ h => h) (Or.inl ⟨by rfl, ?_⟩) (by assumption) ?_
    rotate_left
    · (intro w hSw; (try dsimp only at hSw); go_simp) <;> with_reducible rfl
    try simp only [Act.put, List.setIfInBounds_toArray, List.set_cons_zero, List.set_cons_succ]
    refine wpAnyH_take (i := 6) (oi := { dst := some 31, op := Op.load 22 (Operand.tmp 30), type := 22, pos := "law.go:132", after := #[{ on := 5, ground := Ground.data }], guard := none }) (v := ?_) rfl (by kernel_rfl) (by kernel_rfl) (by kernel_rfl) (fun _ _ _ h => h) (Or.inl ⟨by rfl, ?_⟩) (by assumption) ?_
    rotate_left
    · (intro w hSw; (try dsimp only at hSw); go_simp) <;> with_reducible rfl
    try simp only [Act.put, List.setIfInBounds_toArray, List.set_cons_zero, List.set_cons_succ]
    refine wpAnyH_take (i := 7) (oi := { dst := some 32, op := Op.fieldAddr 25 (Operand.tmp 1) 2, type := 0, pos := "law.go:132", after := #[], guard := none }) (v := ?_) rfl (by kernel_rfl) (by kernel_rfl) (by kernel_rfl) (fun _ _ _ h => h) (Or.inl ⟨by rfl, ?_⟩) (by assumption) ?_
    rotate_left
    · (intro w hSw; (try dsimp only at hSw); go_simp) <;> with_reducible rfl
    try simp only [Act.put, List.setIfInBounds_toArray, List.set_cons_zero, List.set_cons_succ]
    refine wpAnyH_take (i := 8) (oi := { dst := some 33, op := Op.load 3 (Operand.tmp 32), type := 3, pos := "law.go:132", after := #[{ on := 7, ground := Ground.data }], guard := none }) (v := ?_) rfl (by kernel_rfl) (by kernel_rfl) (by kernel_rfl) (fun _ _ _ h => h) (Or.inl ⟨by rfl, ?_⟩) (by assumption) ?_
    rotate_left
    · (intro w hSw; (try dsimp only at hSw); go_simp) <;> with_reducible rfl
    try simp only [Act.put, List.setIfInBounds_toArray, List.set_cons_zero, List.set_cons_succ]
    refine wpAnyH_take (i := 9) (oi := { dst := some 34, op := Op.fieldAddr 25 (Operand.tmp 1) 3, type := 0, pos := "law.go:132", after := #[], guard := none }) (v := ?_) rfl (by kernel_rfl) (by kernel_rfl) (by kernel_rfl) (fun _ _ _ h => h) (Or.inl ⟨by rfl, ?_⟩) (by assumption) ?_
    rotate_left
    · (intro w hSw; (try dsimp only at hSw); go_simp) <;> with_reducible rfl
    try simp only [Act.put, List.setIfInBounds_toArray, List.set_cons_zero, List.set_cons_succ]
    refine wpAnyH_take (i := 10) (oi := { dst := some 35, op := Op.load 3 (Operand.tmp 34), type := 3, pos := "law.go:132", after := #[{ on := 9, ground := Ground.data }], guard := none }) (v := ?_) rfl (by kernel_rfl) (by kernel_rfl) (by kernel_rfl) (fun _ _ _ h => h) (Or.inl ⟨by rfl, ?_⟩) (by assumption) ?_
    rotate_left
    · (intro w hSw; (try dsimp only at hSw); go_simp) <;> with_reducible rfl
    try simp only [Act.put, List.setIfInBounds_toArray, List.set_cons_zero, List.set_cons_succ]
    refine wpAnyH_take (i := 11) (oi := { dst := some 36, op := Op.fieldAddr 25 (Operand.tmp 1) 4, type := 0, pos := "law.go:132", after := #[], guard := none }) (v := ?_) rfl (by kernel_rfl) (by kernel_rfl) (by kernel_rfl) (fun _ _ _ h => h) (Or.inl ⟨by rfl, ?_⟩) (by assumption) ?_
    rotate_left
    · (intro w hSw; (try dsimp only at hSw); go_simp) <;> with_reducible rfl
    try simp only [Act.put, List.setIfInBounds_toArray, List.set_cons_zero, List.set_cons_succ]
    refine wpAnyH_take (i := 12) (oi := { dst := some 37, op := Op.load 23 (Operand.tmp 36), type := 23, pos := "law.go:132", after := #[{ on := 11, ground := Ground.data }], guard := none }) (v := ?_) rfl (by kernel_rfl) (by kernel_rfl) (by kernel_rfl) (fun _ _ _ h => h) (Or.inl ⟨by rfl, ?_⟩) (by assumption) ?_
    rotate_left
    · (intro w hSw; (try dsimp only at hSw); go_simp) <;> with_reducible rfl
    try simp only [Act.put, List.setIfInBounds_toArray, List.set_cons_zero, List.set_cons_succ]
    refine wpAnyH_ready (rs := [3, 17]) (by kernel_rfl) (by simp) ?_
    refine AllReadyH.cons (o := { dst := some 28, op := Op.call { callee := Callee.value (Operand.func 7), args := #[Operand.tmp 25, Operand.tmp 27], argTypes := #[30, 22] }, type := 30, pos := "law.go:132", after := #[{ on := 0, ground := Ground.data }, { on := 2, ground := Ground.data }], guard := none }) rfl (fun K hK => ?_) (AllReadyH.cons (o := { dst := some 5, op := Op.alloc 33, type := 0, pos := "law.go:132", after := #[], guard := none }) rfl (fun K hK => ?_) AllReadyH.nil)
    · go_simp
      refine (last_any 0 0 _ lb _ (H.out.2.1.below (by first | exact S17.out.1.r.bel | exact S0.out.r.bel) (Nat.le_refl _))).mono ?_
      rintro _ w5 ⟨rfl, b5⟩
      have S3 : Hid (RtS w w5 #[.slice ax la.length cx, .slice ay lb.length cy, .int .i64 ca, .int .i64 im, .float .f64 x] y0) := (by first | exact S17.out.1.later b5 | exact S0.out.later b5)
      first | (have Z3 := hidI (S17.out.2.later b5)) | skip
      clear b5
      refine hK.out _ _ S3.out.held (fun hHeld => ?_)
      clear hK K
      refine wpAnyH_ready (rs := [13, 17]) (by kernel_rfl) (by simp) ?_
      refine AllReadyH.cons (o := { dst := some 38, op := Op.call { callee := Callee.value (Operand.func 6), args := #[Operand.tmp 28, Operand.tmp 29, Operand.tmp 31, Operand.tmp 33, Operand.tmp 35, Operand.tmp 37], argTypes := #[30, 30, 22, 3, 3, 23] }, type := 35, pos := "law.go:132", after := #[{ on := 3, ground := Ground.data }, { on := 4, ground := Ground.data }, { on := 6, ground := Ground.data }, { on := 8, ground := Ground.data }, { on := 10, ground := Ground.data }, { on := 12, ground := Ground.data }, { on := 3, ground := Ground.chain }], guard := none }) rfl (fun K hK => ?_) (AllReadyH.cons (o := { dst := some 5, op := Op.alloc 33, type := 0, pos := "law.go:132", after := #[], guard := none }) rfl (fun K hK => ?_) AllReadyH.nil)
      · go_simp
        refine (way_any _ _ 0 0 _ la ca im x _ (H.out.1.below (by first | exact S3.out.r.bel | exact S17.out.1.r.bel) (Nat.le_refl _)) H.out.2.2.1 (H.out.2.2.2.2.below (by first | exact S3.out.r.bel | exact S17.out.1.r.bel) H.out.2.2.2.2.lt) HLa.out.1).mono ?_
        rintro _ w6 ⟨rfl, b6⟩
        rw [← HC.out]
        dsimp only [ChD.val]
        have S13 : Hid (RtS w w6 #[.slice ax la.length cx, .slice ay lb.length cy, .int .i64 ca, .int .i64 im, .float .f64 x] y0) := (by first | exact S3.out.later b6 | exact S17.out.1.later b6)
        first | (have Z13 := hidI (Z3.out.later b6)) | (have Z13 := hidI (S17.out.2.later b6)) | skip
        clear b6
        refine hK.out _ _ S13.out.held (fun hHeld => ?_)
        clear hK K
        refine wpAnyH_take (i := 14) (oi := { dst := some 24, op := Op.move (Operand.tmp 38), type := 35, pos := "law.go:132", after := #[{ on := 13, ground := Ground.data }], guard := none }) (v := ?_) rfl (by kernel_rfl) (by kernel_rfl) (by kernel_rfl) (fun _ _ _ h => h) (Or.inl ⟨by rfl, ?_⟩) (by assumption) ?_
        rotate_left
        · (intro w hSw; (try dsimp only at hSw); go_simp) <;> with_reducible rfl
        try simp only [Act.put, List.setIfInBounds_toArray, List.set_cons_zero, List.set_cons_succ]
        refine wpAnyH_take (i := 15) (oi := { dst := some 39, op := Op.extract (Operand.tmp 24) 0, type := 33, pos := "law.go:132", after := #[{ on := 14, ground := Ground.data }], guard := none }) (v := ?_) rfl (by kernel_rfl) (by kernel_rfl) (by kernel_rfl) (fun _ _ _ h => h) (Or.inl ⟨by rfl, ?_⟩) (by assumption) ?_
        rotate_left
        · (intro w hSw; (try dsimp only at hSw); go_simp) <;> with_reducible rfl
        try simp only [Act.put, List.setIfInBounds_toArray, List.set_cons_zero, List.set_cons_succ]
        refine wpAnyH_take (i := 16) (oi := { dst := some 40, op := Op.extract (Operand.tmp 24) 1, type := 34, pos := "law.go:132", after := #[{ on := 14, ground := Ground.data }, { on := 18, ground := Ground.gcOnly Departure.lateStores }], guard := none }) (v := ?_) rfl (by kernel_rfl) (by kernel_rfl) (by kernel_rfl) (fun _ _ _ h => h) (Or.inl ⟨by rfl, ?_⟩) (by assumption) ?_
        rotate_left
        · (intro w hSw; (try dsimp only at hSw); go_simp) <;> with_reducible rfl
        try simp only [Act.put, List.setIfInBounds_toArray, List.set_cons_zero, List.set_cons_succ]
        refine wpAnyH_ready (rs := [17]) (by kernel_rfl) (by simp) ?_
        refine AllReadyH.cons (o := { dst := some 5, op := Op.alloc 33, type := 0, pos := "law.go:132", after := #[], guard := none }) rfl (fun K hK => ?_) AllReadyH.nil
        go_simp
        first | (have S17 := hidI (And.intro (S13.out.later (one_alloc w6 (.cells chZ 33))) (RtC.new S13.out))) | (have S17 := hidI (And.intro (S3.out.later (one_alloc w5 (.cells chZ 33))) (RtC.new S3.out))) | (have S17 := hidI (And.intro (S0.out.later (one_alloc w4.drew (.cells chZ 33))) (show RtC w (w4.drew.alloc (.cells chZ 33)) w4.heap.size chZ from RtC.new S0.out)))
        refine hK.out _ _ S17.out.1.held (fun hHeld => ?_)
        clear hK K
        refine wpAnyH_ready (rs := [18]) (by kernel_rfl) (by simp) ?_
        refine AllReadyH.cons (o := { dst := none, op := Op.store 33 (Operand.tmp 5) (Operand.tmp 39), type := 0, pos := "law.go:132", after := #[{ on := 17, ground := Ground.data }, { on := 15, ground := Ground.data }, { on := 13, ground := Ground.chain }, { on := 0, ground := Ground.phase }, { on := 1, ground := Ground.phase }, { on := 2, ground := Ground.phase }, { on := 3, ground := Ground.phase }, { on := 4, ground := Ground.phase }, { on := 5, ground := Ground.phase }, { on := 6, ground := Ground.phase }, { on := 7, ground := Ground.phase }, { on := 8, ground := Ground.phase }, { on := 9, ground := Ground.phase }, { on := 10, ground := Ground.phase }, { on := 11, ground := Ground.phase }, { on := 12, ground := Ground.phase }, { on := 13, ground := Ground.phase }, { on := 14, ground := Ground.phase }, { on := 15, ground := Ground.phase }, { on := 16, ground := Ground.textOnly Departure.lateStores }, { on := 17, ground := Ground.phase }], guard := none }) rfl (fun K hK => ?_) AllReadyH.nil
        first | (have R18 := hidI (And.intro S13.out Z13.out)) | (have R18 := S17)
        have d0 := cellAt (i := 0) R18.out.2.row rfl
        have d1 := cellAt (i := 1) R18.out.2.row rfl
        have d2 := cellAt (i := 2) R18.out.2.row rfl
        have d3 := cellAt (i := 3) R18.out.2.row rfl
        have f0 := frozen_of_row _ _ 0 _ _ R18.out.2.row
        have f1 := frozen_of_row _ _ 1 _ _ R18.out.2.row
        have f2 := frozen_of_row _ _ 2 _ _ R18.out.2.row
        have f3 := frozen_of_row _ _ 3 _ _ R18.out.2.row
        first | (have T18 := hidI (rtSet S13.out Z13.out (rt_ne S13.out Z13.out) C)) | (have T18 := hidI (And.intro (S13.out.later (one_alloc w6 (.cells (chA C) 33))) (RtC.newC S13.out C)))
        go_simp
        refine hK.out _ _ T18.out.1.held (fun hHeld => ?_)
        clear hK K
        refine wpAnyH_take (i := 19) (oi := { dst := some 6, op := Op.assign (Operand.tmp 40), type := 34, pos := "law.go:132", after := #[{ on := 16, ground := Ground.data }, { on := 18, ground := Ground.chain }, { on := 0, ground := Ground.phase }, { on := 1, ground := Ground.phase }, { on := 2, ground := Ground.phase }, { on := 3, ground := Ground.phase }, { on := 4, ground := Ground.phase }, { on := 5, ground := Ground.phase }, { on := 6, ground := Ground.phase }, { on := 7, ground := Ground.phase }, { on := 8, ground := Ground.phase }, { on := 9, ground := Ground.phase }, { on := 10, ground := Ground.phase }, { on := 11, ground := Ground.phase }, { on := 12, ground := Ground.phase }, { on := 13, ground := Ground.phase }, { on := 14, ground := Ground.phase }, { on := 15, ground := Ground.phase }, { on := 16, ground := Ground.phase }, { on := 17, ground := Ground.phase }, { on := 18, ground := Ground.phase }], guard := none }) (v := ?_) rfl (by kernel_rfl) (by kernel_rfl) (by kernel_rfl) (fun _ _ _ h => h) (Or.inl ⟨by rfl, ?_⟩) (by assumption) ?_
        rotate_left
        · (intro w hSw; (try dsimp only at hSw); go_simp) <;> with_reducible rfl
        try simp only [Act.put, List.setIfInBounds_toArray, List.set_cons_zero, List.set_cons_succ]
        refine wpAnyH_done (by kernel_rfl) ?_ _
        go_wp2_with fail
        go_meet
        exact ⟨_, rfl, rfl, T18.out.1, T18.out.2⟩
      · go_simp
        first | (have S17 := hidI (And.intro (S13.out.later (one_alloc w6 (.cells chZ 33))) (RtC.new S13.out))) | (have S17 := hidI (And.intro (S3.out.later (one_alloc w5 (.cells chZ 33))) (RtC.new S3.out))) | (have S17 := hidI (And.intro (S0.out.later (one_alloc w4.drew (.cells chZ 33))) (show RtC w (w4.drew.alloc (.cells chZ 33)) w4.heap.size chZ from RtC.new S0.out)))
        refine hK.out _ _ S17.out.1.held (fun hHeld => ?_)
        clear hK K
        refine wpAnyH_ready (rs := [13]) (by kernel_rfl) (by simp) ?_
        refine AllReadyH.cons (o := { dst := some 38, op := Op.call { callee := Callee.value (Operand.func 6), args := #[Operand.tmp 28, Operand.tmp 29, Operand.tmp 31, Operand.tmp 33, Operand.tmp 35, Operand.tmp 37], argTypes := #[30, 30, 22, 3, 3, 23] }, type := 35, pos := "law.go:132", after := #[{ on := 3, ground := Ground.data }, { on := 4, ground := Ground.data }, { on := 6, ground := Ground.data }, { on := 8, ground := Ground.data }, { on := 10, ground := Ground.data }, { on := 12, ground := Ground.data }, { on := 3, ground := Ground.chain }], guard := none }) rfl (fun K hK => ?_) AllReadyH.nil
        go_simp
        refine (way_any _ _ 0 0 _ la ca im x _ (H.out.1.below (by first | exact S3.out.r.bel | exact S17.out.1.r.bel) (Nat.le_refl _)) H.out.2.2.1 (H.out.2.2.2.2.below (by first | exact S3.out.r.bel | exact S17.out.1.r.bel) H.out.2.2.2.2.lt) HLa.out.1).mono ?_
        rintro _ w6 ⟨rfl, b6⟩
        rw [← HC.out]
        dsimp only [ChD.val]
        have S13 : Hid (RtS w w6 #[.slice ax la.length cx, .slice ay lb.length cy, .int .i64 ca, .int .i64 im, .float .f64 x] y0) := (by first | exact S3.out.later b6 | exact S17.out.1.later b6)
        first | (have Z13 := hidI (Z3.out.later b6)) | (have Z13 := hidI (S17.out.2.later b6)) | skip
        clear b6
        refine hK.out _ _ S13.out.held (fun hHeld => ?_)
        clear hK K
        refine wpAnyH_take (i := 14) (oi := { dst := some 24, op := Op.move (Operand.tmp 38), type := 35, pos := "law.go:132", after := #[{ on := 13, ground := Ground.data }], guard := none }) (v := ?_) rfl (by kernel_rfl) (by kernel_rfl) (by kernel_rfl) (fun _ _ _ h => h) (Or.inl ⟨by rfl, ?_⟩) (by assumption) ?_
        rotate_left
        · (intro w hSw; (try dsimp only at hSw); go_simp) <;> with_reducible rfl
        try simp only [Act.put, List.setIfInBounds_toArray, List.set_cons_zero, List.set_cons_succ]
        refine wpAnyH_take (i := 15) (oi := { dst := some 39, op := Op.extract (Operand.tmp 24) 0, type := 33, pos := "law.go:132", after := #[{ on := 14, ground := Ground.data }], guard := none }) (v := ?_) rfl (by kernel_rfl) (by kernel_rfl) (by kernel_rfl) (fun _ _ _ h => h) (Or.inl ⟨by rfl, ?_⟩) (by assumption) ?_
        rotate_left
        · (intro w hSw; (try dsimp only at hSw); go_simp) <;> with_reducible rfl
        try simp only [Act.put, List.setIfInBounds_toArray, List.set_cons_zero, List.set_cons_succ]
        refine wpAnyH_take (i := 16) (oi := { dst := some 40, op := Op.extract (Operand.tmp 24) 1, type := 34, pos := "law.go:132", after := #[{ on := 14, ground := Ground.data }, { on := 18, ground := Ground.gcOnly Departure.lateStores }], guard := none }) (v := ?_) rfl (by kernel_rfl) (by kernel_rfl) (by kernel_rfl) (fun _ _ _ h => h) (Or.inl ⟨by rfl, ?_⟩) (by assumption) ?_
        rotate_left
        · (intro w hSw; (try dsimp only at hSw); go_simp) <;> with_reducible rfl
        try simp only [Act.put, List.setIfInBounds_toArray, List.set_cons_zero, List.set_cons_succ]
        refine wpAnyH_ready (rs := [18]) (by kernel_rfl) (by simp) ?_
        refine AllReadyH.cons (o := { dst := none, op := Op.store 33 (Operand.tmp 5) (Operand.tmp 39), type := 0, pos := "law.go:132", after := #[{ on := 17, ground := Ground.data }, { on := 15, ground := Ground.data }, { on := 13, ground := Ground.chain }, { on := 0, ground := Ground.phase }, { on := 1, ground := Ground.phase }, { on := 2, ground := Ground.phase }, { on := 3, ground := Ground.phase }, { on := 4, ground := Ground.phase }, { on := 5, ground := Ground.phase }, { on := 6, ground := Ground.phase }, { on := 7, ground := Ground.phase }, { on := 8, ground := Ground.phase }, { on := 9, ground := Ground.phase }, { on := 10, ground := Ground.phase }, { on := 11, ground := Ground.phase }, { on := 12, ground := Ground.phase }, { on := 13, ground := Ground.phase }, { on := 14, ground := Ground.phase }, { on := 15, ground := Ground.phase }, { on := 16, ground := Ground.textOnly Departure.lateStores }, { on := 17, ground := Ground.phase }], guard := none }) rfl (fun K hK => ?_) AllReadyH.nil
        first | (have R18 := hidI (And.intro S13.out Z13.out)) | (have R18 := S17)
        have d0 := cellAt (i := 0) R18.out.2.row rfl
        have d1 := cellAt (i := 1) R18.out.2.row rfl
        have d2 := cellAt (i := 2) R18.out.2.row rfl
        have d3 := cellAt (i := 3) R18.out.2.row rfl
        have f0 := frozen_of_row _ _ 0 _ _ R18.out.2.row
        have f1 := frozen_of_row _ _ 1 _ _ R18.out.2.row
        have f2 := frozen_of_row _ _ 2 _ _ R18.out.2.row
        have f3 := frozen_of_row _ _ 3 _ _ R18.out.2.row
        first | (have T18 := hidI (rtSet S13.out Z13.out (rt_ne S13.out Z13.out) C)) | (have T18 := hidI (And.intro (S13.out.later (one_alloc w6 (.cells (chA C) 33))) (RtC.newC S13.out C)))
        go_simp
        refine hK.out _ _ T18.out.1.held (fun hHeld => ?_)
        clear hK K
        refine wpAnyH_take (i := 19) (oi := { dst := some 6, op := Op.assign (Operand.tmp 40), type := 34, pos := "law.go:132", after := #[{ on := 16, ground := Ground.data }, { on := 18, ground := Ground.chain }, { on := 0, ground := Ground.phase }, { on := 1, ground := Ground.phase }, { on := 2, ground := Ground.phase }, { on := 3, ground := Ground.phase }, { on := 4, ground := Ground.phase }, { on := 5, ground := Ground.phase }, { on := 6, ground := Ground.phase }, { on := 7, ground := Ground.phase }, { on := 8, ground := Ground.phase }, { on := 9, ground := Ground.phase }, { on := 10, ground := Ground.phase }, { on := 11, ground := Ground.phase }, { on := 12, ground := Ground.phase }, { on := 13, ground := Ground.phase }, { on := 14, ground := Ground.phase }, { on := 15, ground := Ground.phase }, { on := 16, ground := Ground.phase }, { on := 17, ground := Ground.phase }, { on := 18, ground := Ground.phase }], guard := none }) (v := ?_) rfl (by kernel_rfl) (by kernel_rfl) (by kernel_rfl) (fun _ _ _ h => h) (Or.inl ⟨by rfl, ?_⟩) (by assumption) ?_
        rotate_left
        · (intro w hSw; (try dsimp only at hSw); go_simp) <;> with_reducible rfl
        try simp only [Act.put, List.setIfInBounds_toArray, List.set_cons_zero, List.set_cons_succ]
        refine wpAnyH_done (by kernel_rfl) ?_ _
        go_wp2_with fail
        go_meet
        exact ⟨_, rfl, rfl, T18.out.1, T18.out.2⟩
    · go_simp
      first | (have S17 := hidI (And.intro (S13.out.later (one_alloc w6 (.cells chZ 33))) (RtC.new S13.out))) | (have S17 := hidI (And.intro (S3.out.later (one_alloc w5 (.cells chZ 33))) (RtC.new S3.out))) | (have S17 := hidI (And.intro (S0.out.later (one_alloc w4.drew (.cells chZ 33))) (show RtC w (w4.drew.alloc (.cells chZ 33)) w4.heap.size chZ from RtC.new S0.out)))
      refine hK.out _ _ S17.out.1.held (fun hHeld => ?_)
      clear hK K
      refine wpAnyH_ready (rs := [3]) (by kernel_rfl) (by simp) ?_
      refine AllReadyH.cons (o := { dst := some 28, op := Op.call { callee := Callee.value (Operand.func 7), args := #[Operand.tmp 25, Operand.tmp 27], argTypes := #[30, 22] }, type := 30, pos := "law.go:132", after := #[{ on := 0, ground := Ground.data }, { on := 2, ground := Ground.data }], guard := none }) rfl (fun K hK => ?_) AllReadyH.nil
      go_simp
      refine (last_any 0 0 _ lb _ (H.out.2.1.below (by first | exact S17.out.1.r.bel | exact S0.out.r.bel) (Nat.le_refl _))).mono ?_
      rintro _ w5 ⟨rfl, b5⟩
      have S3 : Hid (RtS w w5 #[.slice ax la.length cx, .slice ay lb.length cy, .int .i64 ca, .int .i64 im, .float .f64 x] y0) := (by first | exact S17.out.1.later b5 | exact S0.out.later b5)
      first | (have Z3 := hidI (S17.out.2.later b5)) | skip
      clear b5
      refine hK.out _ _ S3.out.held (fun hHeld => ?_)
      clear hK K
      refine wpAnyH_ready (rs := [13]) (by kernel_rfl) (by simp) ?_
      refine AllReadyH.cons (o := { dst := some 38, op := Op.call { callee := Callee.value (Operand.func 6), args := #[Operand.tmp 28, Operand.tmp 29, Operand.tmp 31, Operand.tmp 33, Operand.tmp 35, Operand.tmp 37], argTypes := #[30, 30, 22, 3, 3, 23] }, type := 35, pos := "law.go:132", after := #[{ on := 3, ground := Ground.data }, { on := 4, ground := Ground.data }, { on := 6, ground := Ground.data }, { on := 8, ground := Ground.data }, { on := 10, ground := Ground.data }, { on := 12, ground := Ground.data }, { on := 3, ground := Ground.chain }], guard := none }) rfl (fun K hK => ?_) AllReadyH.nil
      go_simp
      refine (way_any _ _ 0 0 _ la ca im x _ (H.out.1.below (by first | exact S3.out.r.bel | exact S17.out.1.r.bel) (Nat.le_refl _)) H.out.2.2.1 (H.out.2.2.2.2.below (by first | exact S3.out.r.bel | exact S17.out.1.r.bel) H.out.2.2.2.2.lt) HLa.out.1).mono ?_
      rintro _ w6 ⟨rfl, b6⟩
      rw [← HC.out]
      dsimp only [ChD.val]
      have S13 : Hid (RtS w w6 #[.slice ax la.length cx, .slice ay lb.length cy, .int .i64 ca, .int .i64 im, .float .f64 x] y0) := (by first | exact S3.out.later b6 | exact S17.out.1.later b6)
      first | (have Z13 := hidI (Z3.out.later b6)) | (have Z13 := hidI (S17.out.2.later b6)) | skip
      clear b6
      refine hK.out _ _ S13.out.held (fun hHeld => ?_)
      clear hK K
      refine wpAnyH_take (i := 14) (oi := { dst := some 24, op := Op.move (Operand.tmp 38), type := 35, pos := "law.go:132", after := #[{ on := 13, ground := Ground.data }], guard := none }) (v := ?_) rfl (by kernel_rfl) (by kernel_rfl) (by kernel_rfl) (fun _ _ _ h => h) (Or.inl ⟨by rfl, ?_⟩) (by assumption) ?_
      rotate_left
      · (intro w hSw; (try dsimp only at hSw); go_simp) <;> with_reducible rfl
      try simp only [Act.put, List.setIfInBounds_toArray, List.set_cons_zero, List.set_cons_succ]
      refine wpAnyH_take (i := 15) (oi := { dst := some 39, op := Op.extract (Operand.tmp 24) 0, type := 33, pos := "law.go:132", after := #[{ on := 14, ground := Ground.data }], guard := none }) (v := ?_) rfl (by kernel_rfl) (by kernel_rfl) (by kernel_rfl) (fun _ _ _ h => h) (Or.inl ⟨by rfl, ?_⟩) (by assumption) ?_
      rotate_left
      · (intro w hSw; (try dsimp only at hSw); go_simp) <;> with_reducible rfl
      try simp only [Act.put, List.setIfInBounds_toArray, List.set_cons_zero, List.set_cons_succ]
      refine wpAnyH_take (i := 16) (oi := { dst := some 40, op := Op.extract (Operand.tmp 24) 1, type := 34, pos := "law.go:132", after := #[{ on := 14, ground := Ground.data }, { on := 18, ground := Ground.gcOnly Departure.lateStores }], guard := none }) (v := ?_) rfl (by kernel_rfl) (by kernel_rfl) (by kernel_rfl) (fun _ _ _ h => h) (Or.inl ⟨by rfl, ?_⟩) (by assumption) ?_
      rotate_left
      · (intro w hSw; (try dsimp only at hSw); go_simp) <;> with_reducible rfl
      try simp only [Act.put, List.setIfInBounds_toArray, List.set_cons_zero, List.set_cons_succ]
      refine wpAnyH_ready (rs := [18]) (by kernel_rfl) (by simp) ?_
      refine AllReadyH.cons (o := { dst := none, op := Op.store 33 (Operand.tmp 5) (Operand.tmp 39), type := 0, pos := "law.go:132", after := #[{ on := 17, ground := Ground.data }, { on := 15, ground := Ground.data }, { on := 13, ground := Ground.chain }, { on := 0, ground := Ground.phase }, { on := 1, ground := Ground.phase }, { on := 2, ground := Ground.phase }, { on := 3, ground := Ground.phase }, { on := 4, ground := Ground.phase }, { on := 5, ground := Ground.phase }, { on := 6, ground := Ground.phase }, { on := 7, ground := Ground.phase }, { on := 8, ground := Ground.phase }, { on := 9, ground := Ground.phase }, { on := 10, ground := Ground.phase }, { on := 11, ground := Ground.phase }, { on := 12, ground := Ground.phase }, { on := 13, ground := Ground.phase }, { on := 14, ground := Ground.phase }, { on := 15, ground := Ground.phase }, { on := 16, ground := Ground.textOnly Departure.lateStores }, { on := 17, ground := Ground.phase }], guard := none }) rfl (fun K hK => ?_) AllReadyH.nil
      first | (have R18 := hidI (And.intro S13.out Z13.out)) | (have R18 := S17)
      have d0 := cellAt (i := 0) R18.out.2.row rfl
      have d1 := cellAt (i := 1) R18.out.2.row rfl
      have d2 := cellAt (i := 2) R18.out.2.row rfl
      have d3 := cellAt (i := 3) R18.out.2.row rfl
      have f0 := frozen_of_row _ _ 0 _ _ R18.out.2.row
      have f1 := frozen_of_row _ _ 1 _ _ R18.out.2.row
      have f2 := frozen_of_row _ _ 2 _ _ R18.out.2.row
      have f3 := frozen_of_row _ _ 3 _ _ R18.out.2.row
      first | (have T18 := hidI (rtSet S13.out Z13.out (rt_ne S13.out Z13.out) C)) | (have T18 := hidI (And.intro (S13.out.later (one_alloc w6 (.cells (chA C) 33))) (RtC.newC S13.out C)))
      go_simp
      refine hK.out _ _ T18.out.1.held (fun hHeld => ?_)
      clear hK K
      refine wpAnyH_take (i := 19) (oi := { dst := some 6, op := Op.assign (Operand.tmp 40), type := 34, pos := "law.go:132", after := #[{ on := 16, ground := Ground.data }, { on := 18, ground := Ground.chain }, { on := 0, ground := Ground.phase }, { on := 1, ground := Ground.phase }, { on := 2, ground := Ground.phase }, { on := 3, ground := Ground.phase }, { on := 4, ground := Ground.phase }, { on := 5, ground := Ground.phase }, { on := 6, ground := Ground.phase }, { on := 7, ground := Ground.phase }, { on := 8, ground := Ground.phase }, { on := 9, ground := Ground.phase }, { on := 10, ground := Ground.phase }, { on := 11, ground := Ground.phase }, { on := 12, ground := Ground.phase }, { on := 13, ground := Ground.phase }, { on := 14, ground := Ground.phase }, { on := 15, ground := Ground.phase }, { on := 16, ground := Ground.phase }, { on := 17, ground := Ground.phase }, { on := 18, ground := Ground.phase }], guard := none }) (v := ?_) rfl (by kernel_rfl) (by kernel_rfl) (by kernel_rfl) (fun _ _ _ h => h) (Or.inl ⟨by rfl, ?_⟩) (by assumption) ?_
      rotate_left
      · (intro w hSw; (try dsimp only at hSw); go_simp) <;> with_reducible rfl
      try simp only [Act.put, List.setIfInBounds_toArray, List.set_cons_zero, List.set_cons_succ]
      refine wpAnyH_done (by kernel_rfl) ?_ _
      go_wp2_with fail
      go_meet
      exact ⟨_, rfl, rfl, T18.out.1, T18.out.2⟩
  case rest =>
    obtain ⟨y1, rfl, rfl, hS, hR⟩ := hcut
    have S5 : Hid (RtS w wc #[.slice ax la.length cx, .slice ay lb.length cy, .int .i64 ca, .int .i64 im, .float .f64 x] y0 ∧ RtC w wc y1 (chA C)) := ⟨hS, hR⟩
    clear hS hR H4
    have c0 : wc.cell? ⟨w.heap.size, 0, none⟩ = some (.slice ax la.length cx) := cellAt S5.out.1.r.row rfl
    have c1 : wc.cell? ⟨w.heap.size, 1, none⟩ = some (.slice ay lb.length cy) := cellAt S5.out.1.r.row rfl
    have c2 : wc.cell? ⟨w.heap.size, 2, none⟩ = some (.int .i64 ca) := cellAt S5.out.1.r.row rfl
    have c3 : wc.cell? ⟨w.heap.size, 3, none⟩ = some (.int .i64 im) := cellAt S5.out.1.r.row rfl
    have c4 : wc.cell? ⟨w.heap.size, 4, none⟩ = some (.float .f64 x) := cellAt S5.out.1.r.row rfl
    have z0 : wc.cell? ⟨y0, 0, none⟩ = some (.int .u32 0) := cellAt S5.out.1.a rfl
    have z1 : wc.cell? ⟨y0, 1, none⟩ = some (.int .u32 0) := cellAt S5.out.1.a rfl
    go_wp2_with fail
    refine (lawRises_any 0 0 _ la _ (H.out.1.below S5.out.1.r.bel (Nat.le_refl _))).mono ?_
    rintro _ w7 ⟨rfl, b7⟩
    have S7 : Hid (RtS w w7 #[.slice ax la.length cx, .slice ay lb.length cy, .int .i64 ca, .int .i64 im, .float .f64 x] y0 ∧ RtC w w7 y1 (chA C)) := ⟨S5.out.1.later b7, S5.out.2.later b7⟩
    clear b7 S5 c0 c1 c2 c3 c4 z0 z1
    cases hra : rises 0 0 la with
    | false =>
      go_wp2_with fail
      go_ret
      exact ⟨rfl, S7.out.1.r.bel⟩
    | true =>
    have HRa : Hid _ := hra
    clear hra
    have c0 : w7.cell? ⟨w.heap.size, 0, none⟩ = some (.slice ax la.length cx) := cellAt S7.out.1.r.row rfl
    have c1 : w7.cell? ⟨w.heap.size, 1, none⟩ = some (.slice ay lb.length cy) := cellAt S7.out.1.r.row rfl
    have c2 : w7.cell? ⟨w.heap.size, 2, none⟩ = some (.int .i64 ca) := cellAt S7.out.1.r.row rfl
    have c3 : w7.cell? ⟨w.heap.size, 3, none⟩ = some (.int .i64 im) := cellAt S7.out.1.r.row rfl
    have c4 : w7.cell? ⟨w.heap.size, 4, none⟩ = some (.float .f64 x) := cellAt S7.out.1.r.row rfl
    have z0 : w7.cell? ⟨y0, 0, none⟩ = some (.int .u32 0) := cellAt S7.out.1.a rfl
    have z1 : w7.cell? ⟨y0, 1, none⟩ = some (.int .u32 0) := cellAt S7.out.1.a rfl
    go_wp2_with fail
    refine (lawRises_any 0 0 _ lb _ (H.out.2.1.below S7.out.1.r.bel (Nat.le_refl _))).mono ?_
    rintro _ w8 ⟨rfl, b8⟩
    have S8 : Hid (RtS w w8 #[.slice ax la.length cx, .slice ay lb.length cy, .int .i64 ca, .int .i64 im, .float .f64 x] y0 ∧ RtC w w8 y1 (chA C)) := ⟨S7.out.1.later b8, S7.out.2.later b8⟩
    clear b8 S7 c0 c1 c2 c3 c4 z0 z1
    cases hrb : rises 0 0 lb with
    | false =>
      go_wp2_with fail
      go_ret
      exact ⟨rfl, S8.out.1.r.bel⟩
    | true =>
    have HRb : Hid _ := hrb
    clear hrb
    have c0 : w8.cell? ⟨w.heap.size, 0, none⟩ = some (.slice ax la.length cx) := cellAt S8.out.1.r.row rfl
    have c1 : w8.cell? ⟨w.heap.size, 1, none⟩ = some (.slice ay lb.length cy) := cellAt S8.out.1.r.row rfl
    have c2 : w8.cell? ⟨w.heap.size, 2, none⟩ = some (.int .i64 ca) := cellAt S8.out.1.r.row rfl
    have c3 : w8.cell? ⟨w.heap.size, 3, none⟩ = some (.int .i64 im) := cellAt S8.out.1.r.row rfl
    have c4 : w8.cell? ⟨w.heap.size, 4, none⟩ = some (.float .f64 x) := cellAt S8.out.1.r.row rfl
    have z0 : w8.cell? ⟨y0, 0, none⟩ = some (.int .u32 0) := cellAt S8.out.1.a rfl
    have z1 : w8.cell? ⟨y0, 1, none⟩ = some (.int .u32 0) := cellAt S8.out.1.a rfl
    by_cases h1 : 0 ≤ ca
    rotate_left
    · have h1' : decide (0 ≤ ca) = false := decide_eq_false h1
      go_wp2_with fail
      go_ret
      exact ⟨rfl, S8.out.1.r.bel⟩
    have h1' : decide (0 ≤ ca) = true := decide_eq_true h1
    by_cases h2 : ca ≤ (la.length : Int)
    rotate_left
    · have h2' : decide (ca ≤ (la.length : Int)) = false := decide_eq_false h2
      go_wp2_with fail
      go_ret
      exact ⟨rfl, S8.out.1.r.bel⟩
    have h2' : decide (ca ≤ (la.length : Int)) = true := decide_eq_true h2
    by_cases h3 : 0 ≤ im
    rotate_left
    · have h3' : decide (0 ≤ im) = false := decide_eq_false h3
      go_wp2_with fail
      go_ret
      exact ⟨rfl, S8.out.1.r.bel⟩
    have h3' : decide (0 ≤ im) = true := decide_eq_true h3
    have hCC := right_C (pe := lstE 0 lb lb.length) (pn := lstN 0 lb lb.length) (x := x) HRa.out h1 h2 h3
    rw [← HC.out] at hCC
    clear HC
    obtain ⟨u, hu⟩ : ∃ u, u = upN (lstE 0 lb lb.length) (lstN 0 lb lb.length) la := ⟨_, rfl⟩
    have hul : u ≤ la.length := by rw [hu]; exact upN_le _ _ _
    rw [← hu] at hCC
    clear hu
    rcases hCC with ⟨fe, fn, rfl⟩ | ⟨nr, rfl⟩
    · have d0 : w8.cell? ⟨y1, 0, none⟩ = some (.int .i8 4) := cellAt S8.out.2.row rfl
      go_wp2_with fail
      go_ret
      exact ⟨rfl, S8.out.1.r.bel⟩
    obtain ⟨wy, hwy⟩ : ∃ wy, wy = sendW (decide (lstE 0 la u = lstE 0 lb lb.length ∧ lstN 0 la u = lstN 0 lb lb.length)) (la.length - u) := ⟨_, rfl⟩
    have h4 : (wy == 4) = false := by rcases sendW_le (decide (lstE 0 la u = lstE 0 lb lb.length ∧ lstN 0 la u = lstN 0 lb lb.length)) (la.length - u) with h | h | h <;> (rw [hwy, h]; rfl)
    obtain ⟨fe, hfe⟩ : ∃ fe, fe = lstE 0 la u := ⟨_, rfl⟩
    obtain ⟨fn, hfn⟩ : ∃ fn, fn = lstN 0 la u := ⟨_, rfl⟩
    rw [← hwy, ← hfe, ← hfn] at S8
    have HF : Hid (fe = lstE 0 la u ∧ fn = lstN 0 la u ∧ wy = sendW (decide (lstE 0 la u = lstE 0 lb lb.length ∧ lstN 0 la u = lstN 0 lb lb.length)) (la.length - u)) := ⟨hfe, hfn, hwy⟩
    clear hfe hfn hwy
    have d0 : w8.cell? ⟨y1, 0, none⟩ = some (.int .i8 wy) := cellAt S8.out.2.row rfl
    go_wp2_with fail
    refine (lawAgree_any _ _ la lb _ (H.out.1.below S8.out.1.r.bel (Nat.le_refl _)) (H.out.2.1.below S8.out.1.r.bel (Nat.le_refl _)) HLa.out.1 HLb.out.1).mono ?_
    rintro _ w9 ⟨bl, rfl, hag, b9⟩
    have S9 : Hid (RtS w w9 #[.slice ax la.length cx, .slice ay lb.length cy, .int .i64 ca, .int .i64 im, .float .f64 x] y0 ∧ RtC w w9 y1 (chA ⟨wy, fe, fn, nr, 0⟩)) := ⟨S8.out.1.later b9, S8.out.2.later b9⟩
    clear b9 S8 c0 c1 c2 c3 c4 z0 z1 d0
    cases bl
    · go_wp2_with fail
      go_ret
      exact ⟨rfl, S9.out.1.r.bel⟩
    have HAG : Hid (∀ i k, AgP la lb i k) := hag rfl
    clear hag h1' h2' h3' h1 h2 h3 h4
    have c0 : w9.cell? ⟨w.heap.size, 0, none⟩ = some (.slice ax la.length cx) := cellAt S9.out.1.r.row rfl
    have c1 : w9.cell? ⟨w.heap.size, 1, none⟩ = some (.slice ay lb.length cy) := cellAt S9.out.1.r.row rfl
    have c2 : w9.cell? ⟨w.heap.size, 2, none⟩ = some (.int .i64 ca) := cellAt S9.out.1.r.row rfl
    have c3 : w9.cell? ⟨w.heap.size, 3, none⟩ = some (.int .i64 im) := cellAt S9.out.1.r.row rfl
    have c4 : w9.cell? ⟨w.heap.size, 4, none⟩ = some (.float .f64 x) := cellAt S9.out.1.r.row rfl
    have z0 : w9.cell? ⟨y0, 0, none⟩ = some (.int .u32 0) := cellAt S9.out.1.a rfl
    have z1 : w9.cell? ⟨y0, 1, none⟩ = some (.int .u32 0) := cellAt S9.out.1.a rfl
    have d1 : w9.cell? ⟨y1, 1, none⟩ = some (.int .u32 fe) := cellAt S9.out.2.row rfl
    have d2 : w9.cell? ⟨y1, 2, none⟩ = some (.int .u32 fn) := cellAt S9.out.2.row rfl
    go_upto_region 13 with fail
    go_cut [8] from 89 to 92 (fun s wx => s = .bool (decide (fe = 0 ∧ fn = 0)) ∧ wx = w9)
    case first =>
      by_cases e1 : fe = 0
      · by_cases e2 : fn = 0
        · subst e1 e2
          go_wp2_with fail
          go_meet
          exact ⟨rfl, rfl⟩
        · have e2' : (fn == 0) = false := by simp [e2]
          go_wp2_with fail
          all_goals (go_meet; exact ⟨by simp [e1, e2], rfl⟩)
      · have e1' : (fe == 0) = false := by simp [e1]
        go_wp2_with fail
        all_goals (go_meet; exact ⟨by simp [e1], rfl⟩)
    case rest =>
    obtain ⟨rfl, rfl⟩ := hcut
    clear c0 c1 c2 c3 c4 z0 z1 d1 d2
    obtain ⟨b0, hb0⟩ : ∃ b0, b0 = decide (fe = 0 ∧ fn = 0) := ⟨_, rfl⟩
    rw [← hb0]
    have HB0 : Hid (b0 = true → (fe = 0 ∧ fn = 0) ∨ ∃ k, ∃ hk : k < lb.length, lb[k].ep = fe ∧ lb[k].n = fn) := fun h => .inl (by rw [hb0] at h; exact of_decide_eq_true h)
    clear hb0
    have hlb := HLb.out.1
    go_wp2_with fail
    go_loopw [8, 9] (fun s i wr => ∃ (k : Nat) (b : Bool), k ≤ lb.length ∧ i = .int .i64 k ∧ s = .bool b ∧ Hid (RtS w wr #[.slice ax la.length cx, .slice ay lb.length cy, .int .i64 ca, .int .i64 im, .float .f64 x] y0 ∧ RtC w wr y1 (chA ⟨wy, fe, fn, nr, 0⟩)) ∧ Hid (b = true → (fe = 0 ∧ fn = 0) ∨ ∃ k, ∃ hk : k < lb.length, lb[k].ep = fe ∧ lb[k].n = fn)) (fun _ i _ => lb.length - (intOf i).toNat)
    case atStart => exact ⟨0, b0, Nat.zero_le _, rfl, rfl, S9, HB0⟩
    case round =>
      clear S9 HB0
      obtain ⟨k, b, hk, rfl, rfl, SR, HBR⟩ := hrel
      have c1 : wr.cell? ⟨w.heap.size, 1, none⟩ = some (.slice ay lb.length cy) := cellAt SR.out.1.r.row rfl
      by_cases hkl : k < lb.length
      · obtain ⟨b_y, ofy, c2, rc', hv, _, _, _, hat'⟩ := txs_at (H.out.2.1.below SR.out.1.r.bel (Nat.le_refl _)) k hkl
        simp at hv
        obtain ⟨rfl, rfl⟩ := hv
        have g0 : wr.cell? ⟨b_y, ofy + k * 16, none⟩ = some (.int .u32 lb[k].ep) := hat' 0 (by omega)
        have g1 : wr.cell? ⟨b_y, ofy + k * 16 + 1, none⟩ = some (.int .u32 lb[k].n) := hat' 1 (by omega)
        have d1 : wr.cell? ⟨y1, 1, none⟩ = some (.int .u32 fe) := cellAt SR.out.2.row rfl
        have d2 : wr.cell? ⟨y1, 2, none⟩ = some (.int .u32 fn) := cellAt SR.out.2.row rfl
        clear hat'
        have SN : Hid (∀ n, RtS w (wr.drewN n) #[.slice ax la.length cx, .slice (some ⟨b_y, ofy, none⟩) lb.length cy, .int .i64 ca, .int .i64 im, .float .f64 x] y0 ∧ RtC w (wr.drewN n) y1 (chA ⟨wy, fe, fn, nr, 0⟩)) := fun n => ⟨SR.out.1.later (below_drewN (Below.refl _ _) n), SR.out.2.later (below_drewN (Below.refl _ _) n)⟩
        clear SR
        cases b with
        | true =>
          go_upto_region 17 with fail
          go_quiet (fail)
          clear c1 g0 g1 d1 d2
          go_wp2_with fail
          go_roundw
          case rel => exact ⟨k + 1, true, by omega, by go_num, rfl, hidI (SN.out _), HBR⟩
          case measure => simp [intOf]; omega
        | false =>
          by_cases e1 : lb[k].ep = fe
          · by_cases e2 : lb[k].n = fn
            · have HBN : Hid (true = true → (fe = 0 ∧ fn = 0) ∨ ∃ k, ∃ hk : k < lb.length, lb[k].ep = fe ∧ lb[k].n = fn) := fun _ => .inr ⟨k, hkl, e1, e2⟩
              rw [e1] at g0
              rw [e2] at g1
              clear HBR e1 e2
              go_upto_region 17 with fail
              go_quiet (fail)
              clear c1 g0 g1 d1 d2
              go_wp2_with fail
              go_roundw
              case rel => exact ⟨k + 1, true, by omega, by go_num, rfl, hidI (SN.out _), HBN⟩
              case measure => simp [intOf]; omega
            · have e2' : (lb[k].n == fn) = false := by simp [e2]
              go_upto_region 17 with fail
              go_quiet (fail)
              clear c1 g0 g1 d1 d2
              go_wp2_with fail
              go_roundw
              case rel => exact ⟨k + 1, false, by omega, by go_num, rfl, hidI (SN.out _), HBR⟩
              case measure => simp [intOf]; omega
          · have e1' : (lb[k].ep == fe) = false := by simp [e1]
            go_upto_region 17 with fail
            go_quiet (fail)
            clear c1 g0 g1 d1 d2
            go_wp2_with fail
            go_roundw
            case rel => exact ⟨k + 1, false, by omega, by go_num, rfl, hidI (SN.out _), HBR⟩
            case measure => simp [intOf]; omega
      · obtain rfl : k = lb.length := by omega
        cases b
        · go_wp2_with fail
          go_ret
          exact ⟨rfl, SR.out.1.r.bel⟩
        have HST := hidI (HBR.out rfl)
        clear HBR
        have d1 : wr.cell? ⟨y1, 1, none⟩ = some (.int .u32 fe) := cellAt SR.out.2.row rfl
        have d2 : wr.cell? ⟨y1, 2, none⟩ = some (.int .u32 fn) := cellAt SR.out.2.row rfl
        go_wp2_with fail
        refine (lawUpTo_any fe fn _ lb _ (H.out.2.1.below SR.out.1.r.bel (Nat.le_refl _)) HLb.out.1).mono ?_
        rintro _ w10 ⟨hv, rfl, hU, b10⟩
        have HFA : Hid (upL fe fn la = la.take u ∧ upL fe fn lb = la.take u ∧ ((fe = lstE 0 lb lb.length ∧ fn = lstN 0 lb lb.length) ↔ ¬ u < lb.length)) := by
          have a := right_facts HRa.out HRb.out HAG.out u hul (by rw [← HF.out.1, ← HF.out.2.1]; exact HST.out)
          rw [← HF.out.1, ← HF.out.2.1, show (la.take u).length = u by simp; omega] at a
          exact a
        have HLN : Hid ((la.take u).length = u) := by show (la.take u).length = u; simp; omega
        rw [HFA.out.2.1] at hU
        obtain ⟨az, cz, rfl, hz1, hz2⟩ := txs_shape hU
        rw [HLN.out] at hU hz1 ⊢
        unfold maxLen at hz2
        have HU : Hid (SeesTxs w10 (.slice az u cz) (la.take u)) := hU
        have S10 : Hid (RtS w w10 #[.slice ax la.length cx, .slice ay lb.length cy, .int .i64 ca, .int .i64 im, .float .f64 x] y0 ∧ RtC w w10 y1 (chA ⟨wy, fe, fn, nr, 0⟩)) := ⟨SR.out.1.later b10, SR.out.2.later b10⟩
        clear hU b10 SR HST HAG HRa HRb d1 d2 c1
        have c1 : w10.cell? ⟨w.heap.size, 1, none⟩ = some (.slice ay lb.length cy) := cellAt S10.out.1.r.row rfl
        obtain ⟨ua, m, uc, eP, hm, HSU⟩ : ∃ ua m uc, sliced ax u la.length cx 16 = .slice ua m uc ∧ m = la.length - u ∧ Hid (SeesTxs w (.slice ua m uc) (la.drop u)) := by
          have a := seesTxs_cut H.out.1 u la.length hul (Nat.le_refl _)
          rw [List.take_length] at a
          obtain ⟨ua, uc, e, _, _⟩ := txs_shape a
          rw [e] at a
          rw [List.length_drop] at a e
          exact ⟨ua, _, uc, e, rfl, a⟩
        have HM : Hid (m = la.length - u) := hm
        clear hm
        have hla := HLa.out.1
        obtain ⟨ct, hct⟩ : ∃ ct, ct = decide (u < lb.length) := ⟨_, rfl⟩
        have HCT : Hid _ := hct
        clear hct
        go_upto_region 22 with fail
        rw [← HCT.out]
        go_cut [12] from 125 to 133 (fun s wx => s = .slice ua m uc ∧ RtS w wx #[.slice ax la.length cx, .slice ay lb.length cy, .int .i64 ca, .int .i64 im, .float .f64 x] y0 ∧ RtC w wx y1 (chA ⟨wy, fe, fn, nr, 0⟩) ∧ SeesTxs wx (.slice az u cz) (la.take u))
        case first =>
          refine wp_region_held_drew (S := (fun W => W.cell? ⟨w.heap.size, 0, none⟩ = some (.slice ax la.length cx) ∧ W.cell? ⟨y1, 1, none⟩ = some (.int .u32 fe) ∧ W.cell? ⟨y1, 2, none⟩ = some (.int .u32 fn))) (by kernel_rfl) ?_ (fun hHeld => ?_)
          · exact ⟨cellAt (S10.out.1.later (below_drewN (Below.refl _ _) 1)).r.row rfl, cellAt (S10.out.2.later (below_drewN (Below.refl _ _) 1)).row rfl, cellAt (S10.out.2.later (below_drewN (Below.refl _ _) 1)).row rfl⟩
          refine wpAnyH_take (i := 0) (oi := { dst := some 125, op := Op.fieldAddr 25 (Operand.tmp 1) 0, type := 0, pos := "law.go:152", after := #[], guard := none }) (v := ?_) rfl (by kernel_rfl) (by kernel_rfl) (by kernel_rfl) (fun _ _ _ h => h) (Or.inl ⟨by rfl, ?_⟩) (by assumption) ?_
          rotate_left
          · (intro w hSw; (try dsimp only at hSw); go_simp) <;> with_reducible rfl
          try simp only [Act.put, List.setIfInBounds_toArray, List.set_cons_zero, List.set_cons_succ]
          refine wpAnyH_take (i := 1) (oi := { dst := some 126, op := Op.load 22 (Operand.tmp 125), type := 22, pos := "law.go:152", after := #[{ on := 0, ground := Ground.data }], guard := none }) (v := ?_) rfl (by kernel_rfl) (by kernel_rfl) (by kernel_rfl) (fun _ _ _ h => h) (Or.inl ⟨by rfl, ?_⟩) (by assumption) ?_
          rotate_left
          · (intro w hSw; (try dsimp only at hSw); go_simp) <;> with_reducible rfl
          try simp only [Act.put, List.setIfInBounds_toArray, List.set_cons_zero, List.set_cons_succ]
          refine wpAnyH_take (i := 2) (oi := { dst := some 127, op := Op.fieldAddr 25 (Operand.tmp 1) 0, type := 0, pos := "law.go:152", after := #[], guard := none }) (v := ?_) rfl (by kernel_rfl) (by kernel_rfl) (by kernel_rfl) (fun _ _ _ h => h) (Or.inl ⟨by rfl, ?_⟩) (by assumption) ?_
          rotate_left
          · (intro w hSw; (try dsimp only at hSw); go_simp) <;> with_reducible rfl
          try simp only [Act.put, List.setIfInBounds_toArray, List.set_cons_zero, List.set_cons_succ]
          refine wpAnyH_take (i := 3) (oi := { dst := some 128, op := Op.load 22 (Operand.tmp 127), type := 22, pos := "law.go:152", after := #[{ on := 2, ground := Ground.data }], guard := none }) (v := ?_) rfl (by kernel_rfl) (by kernel_rfl) (by kernel_rfl) (fun _ _ _ h => h) (Or.inl ⟨by rfl, ?_⟩) (by assumption) ?_
          rotate_left
          · (intro w hSw; (try dsimp only at hSw); go_simp) <;> with_reducible rfl
          try simp only [Act.put, List.setIfInBounds_toArray, List.set_cons_zero, List.set_cons_succ]
          refine wpAnyH_take (i := 4) (oi := { dst := some 129, op := Op.fieldAddr 33 (Operand.tmp 5) 1, type := 0, pos := "law.go:152", after := #[], guard := none }) (v := ?_) rfl (by kernel_rfl) (by kernel_rfl) (by kernel_rfl) (fun _ _ _ h => h) (Or.inl ⟨by rfl, ?_⟩) (by assumption) ?_
          rotate_left
          · (intro w hSw; (try dsimp only at hSw); go_simp) <;> with_reducible rfl
          try simp only [Act.put, List.setIfInBounds_toArray, List.set_cons_zero, List.set_cons_succ]
          refine wpAnyH_take (i := 5) (oi := { dst := some 130, op := Op.load 30 (Operand.tmp 129), type := 30, pos := "law.go:152", after := #[{ on := 4, ground := Ground.data }], guard := none }) (v := ?_) rfl (by kernel_rfl) (by kernel_rfl) (by kernel_rfl) (fun _ _ _ h => h) (Or.inl ⟨by rfl, ?_⟩) (by assumption) ?_
          rotate_left
          · (intro w hSw; (try dsimp only at hSw); go_simp) <;> with_reducible rfl
          try simp only [Act.put, List.setIfInBounds_toArray, List.set_cons_zero, List.set_cons_succ]
          refine wpAnyH_ready (rs := [6]) (by kernel_rfl) (by simp) ?_
          refine AllReadyH.cons (o := { dst := some 131, op := Op.call { callee := Callee.value (Operand.func 10), args := #[Operand.tmp 128, Operand.tmp 130], argTypes := #[22, 30] }, type := 22, pos := "law.go:152", after := #[{ on := 3, ground := Ground.data }, { on := 5, ground := Ground.data }], guard := none }) rfl (fun K hK => ?_) AllReadyH.nil
          go_simp
          refine (lawUpTo_any fe fn _ la _ (H.out.1.below (S10.out.1.later (below_drewN (Below.refl _ _) 1)).r.bel (Nat.le_refl _)) HLa.out.1).mono ?_
          rintro _ w11 ⟨hv2, rfl, hU2, b11⟩
          rw [HFA.out.1] at hU2
          obtain ⟨a2, c2, rfl, _, _⟩ := txs_shape hU2
          rw [HLN.out]
          clear hU2
          have S11 : Hid (RtS w w11 #[.slice ax la.length cx, .slice ay lb.length cy, .int .i64 ca, .int .i64 im, .float .f64 x] y0 ∧ RtC w w11 y1 (chA ⟨wy, fe, fn, nr, 0⟩)) := ⟨(S10.out.1.later (below_drewN (Below.refl _ _) 1)).later b11, (S10.out.2.later (below_drewN (Below.refl _ _) 1)).later b11⟩
          have HU11 : Hid (SeesTxs w11 (.slice az u cz) (la.take u)) := (HU.out.below (below_drewN (Below.refl _ _) 1) (Nat.le_refl _)).below b11 (Nat.le_refl _)
          clear b11
          refine hK.out _ _ ⟨cellAt S11.out.1.r.row rfl, cellAt S11.out.2.row rfl, cellAt S11.out.2.row rfl⟩ (fun hHeld => ?_)
          clear hK K
          refine wpAnyH_take (i := 7) (oi := { dst := some 132, op := Op.call { callee := Callee.builtin Builtin.len, args := #[Operand.tmp 131], argTypes := #[22] }, type := 3, pos := "law.go:152", after := #[{ on := 6, ground := Ground.data }], guard := none }) (v := ?_) rfl (by kernel_rfl) (by kernel_rfl) (by kernel_rfl) (fun _ _ _ h => h) (Or.inl ⟨by rfl, ?_⟩) (by assumption) ?_
          rotate_left
          · (intro w hSw; (try dsimp only at hSw); go_simp) <;> with_reducible rfl
          try simp only [Act.put, List.setIfInBounds_toArray, List.set_cons_zero, List.set_cons_succ]
          refine wpAnyH_take (i := 8) (oi := { dst := some 133, op := Op.slice 22 (Operand.tmp 126) (some (Operand.tmp 132)) none none, type := 22, pos := "law.go:152", after := #[{ on := 1, ground := Ground.data }, { on := 7, ground := Ground.data }], guard := none }) (v := .slice ua m uc) rfl (by kernel_rfl) (by kernel_rfl) (by kernel_rfl) (fun _ _ _ h => h) (Or.inl ⟨by rfl, fun w' hSw => by rw [← eP]; go_simp⟩) (by assumption) ?_
          try simp only [Act.put, List.setIfInBounds_toArray, List.set_cons_zero, List.set_cons_succ]
          refine wpAnyH_take (i := 9) (oi := { dst := some 12, op := Op.assign (Operand.tmp 133), type := 22, pos := "law.go:152", after := #[{ on := 8, ground := Ground.data }, { on := 6, ground := Ground.chain }, { on := 0, ground := Ground.phase }, { on := 1, ground := Ground.phase }, { on := 2, ground := Ground.phase }, { on := 3, ground := Ground.phase }, { on := 4, ground := Ground.phase }, { on := 5, ground := Ground.phase }, { on := 6, ground := Ground.phase }, { on := 7, ground := Ground.phase }, { on := 8, ground := Ground.phase }], guard := none }) (v := ?_) rfl (by kernel_rfl) (by kernel_rfl) (by kernel_rfl) (fun _ _ _ h => h) (Or.inl ⟨by rfl, ?_⟩) (by assumption) ?_
          rotate_left
          · (intro w hSw; (try dsimp only at hSw); go_simp) <;> with_reducible rfl
          try simp only [Act.put, List.setIfInBounds_toArray, List.set_cons_zero, List.set_cons_succ]
          refine wpAnyH_done (by kernel_rfl) ?_ _
          go_wp2_with fail
          go_meet
          exact ⟨rfl, S11.out.1, S11.out.2, HU11.out⟩
        case rest =>
        obtain ⟨rfl, hS, hR, hU⟩ := hcut
        have S11 : Hid (RtS w wc #[.slice ax la.length cx, .slice ay lb.length cy, .int .i64 ca, .int .i64 im, .float .f64 x] y0 ∧ RtC w wc y1 (chA ⟨wy, fe, fn, nr, 0⟩)) := ⟨hS, hR⟩
        have HU11 : Hid (SeesTxs wc (.slice az u cz) (la.take u)) := hU
        clear hS hR hU S10 HU c1 eP
        go_upto_region 23 with fail
        go_cut [10] from 134 to 137 (fun s wx => RtS w wx #[.slice ax la.length cx, .slice ay lb.length cy, .int .i64 ca, .int .i64 im, .float .f64 x] y0 ∧ RtC w wx y1 (chA ⟨wy, fe, fn, nr, 0⟩) ∧ SeesTxs wx s la)
        case first =>
          go_wp2_with fail
          refine (copyTxnsF_any _ (la.take u) _ HU11.out (by rw [HLN.out]; omega) (fun t ht => HLa.out.2 t (List.mem_of_mem_take ht))).mono ?_
          rintro _ w12 ⟨v12, es, rfl, hF12, hO12, b12⟩
          obtain ⟨v13, w13, hrun, hs13, b13⟩ := rest_app (w0 := w) S11.out.1.r.bel.size b12.size hF12 hO12 HSU.out (S11.out.1.later b12).r.bel (by rw [HLN.out, List.length_drop]; omega)
          rw [List.take_append_drop] at hs13
          have S13 : Hid (RtS w w13 #[.slice ax la.length cx, .slice ay lb.length cy, .int .i64 ca, .int .i64 im, .float .f64 x] y0 ∧ RtC w w13 y1 (chA ⟨wy, fe, fn, nr, 0⟩)) := ⟨S11.out.1.later (b12.trans b13), S11.out.2.later (b12.trans b13)⟩
          have HS13 : Hid _ := hs13
          clear hF12 hO12 b12 b13 hs13 S11 HU11
          go_wp2_with (at_builtin; refine app_run rfl _ _ 22 rfl v12 (.slice ua m uc) rfl rfl hrun ?_)
          clear hrun
          go_wp2_with fail
          go_meet
          exact ⟨S13.out.1, S13.out.2, HS13.out⟩
        case rest =>
        obtain ⟨hS, hR, hU⟩ := hcut
        have S13 : Hid (RtS w wc #[.slice ax la.length cx, .slice ay lb.length cy, .int .i64 ca, .int .i64 im, .float .f64 x] y0 ∧ RtC w wc y1 (chA ⟨wy, fe, fn, nr, 0⟩)) := ⟨hS, hR⟩
        have HS13 : Hid _ := hU
        clear hS hR hU S11 HU11
        have c0 : wc.cell? ⟨w.heap.size, 0, none⟩ = some (.slice ax la.length cx) := cellAt S13.out.1.r.row rfl
        by_cases hct : u < lb.length
        · obtain rfl : ct = true := by rw [HCT.out]; exact decide_eq_true (by omega)
          have hsm : (decide (lstE 0 la u = lstE 0 lb lb.length ∧ lstN 0 la u = lstN 0 lb lb.length)) = false := by rw [← HF.out.1, ← HF.out.2.1]; exact decide_eq_false (by have a := HFA.out.2.2; exact fun h => a.1 h hct)
          have hwy := HF.out.2.2
          rw [hsm, ← HM.out] at hwy
          clear HF HFA hsm HCT hct
          by_cases hm0 : m = 0
          · obtain rfl : wy = 2 := by rw [hwy, hm0]; rfl
            clear hwy HM
            subst hm0
            go_wp2_with fail
            refine (eqTxns_same _ _ la _ HS13.out (H.out.1.below S13.out.1.r.bel (Nat.le_refl _))).mono ?_
            rintro _ w14 ⟨rfl, b14⟩
            have S14 : Hid (RtS w w14 #[.slice ax la.length cx, .slice ay lb.length cy, .int .i64 ca, .int .i64 im, .float .f64 x] y0 ∧ RtC w w14 y1 (chA ⟨2, fe, fn, nr, 0⟩)) := ⟨S13.out.1.later b14, S13.out.2.later b14⟩
            have d0 : w14.cell? ⟨y1, 0, none⟩ = some (.int .i8 2) := cellAt S14.out.2.row rfl
            clear b14 S13 HS13 c0
            go_wp2_with fail
            go_ret
            exact ⟨rfl, S14.out.1.r.bel⟩
          · obtain rfl : wy = 3 := by rw [hwy]; unfold sendW; rw [if_neg (by simp), if_neg hm0]
            clear hwy
            have hm1 : 0 < m := by omega
            clear HM
            go_wp2_with fail
            refine (eqTxns_same _ _ la _ HS13.out (H.out.1.below S13.out.1.r.bel (Nat.le_refl _))).mono ?_
            rintro _ w14 ⟨rfl, b14⟩
            have S14 : Hid (RtS w w14 #[.slice ax la.length cx, .slice ay lb.length cy, .int .i64 ca, .int .i64 im, .float .f64 x] y0 ∧ RtC w w14 y1 (chA ⟨3, fe, fn, nr, 0⟩)) := ⟨S13.out.1.later b14, S13.out.2.later b14⟩
            have d0 : w14.cell? ⟨y1, 0, none⟩ = some (.int .i8 3) := cellAt S14.out.2.row rfl
            clear b14 S13 HS13 c0
            go_wp2_with fail
            go_ret
            exact ⟨rfl, S14.out.1.r.bel⟩
        · obtain rfl : ct = false := by rw [HCT.out]; exact decide_eq_false (by omega)
          have hsm : (decide (lstE 0 la u = lstE 0 lb lb.length ∧ lstN 0 la u = lstN 0 lb lb.length)) = true := by rw [← HF.out.1, ← HF.out.2.1]; exact decide_eq_true (by have a := HFA.out.2.2; exact a.2 hct)
          have hwy := HF.out.2.2
          rw [hsm, ← HM.out] at hwy
          clear HF HFA hsm HCT hct
          obtain rfl : wy = 1 := by rw [hwy]; rfl
          clear hwy HM
          go_wp2_with fail
          refine (eqTxns_same _ _ la _ HS13.out (H.out.1.below S13.out.1.r.bel (Nat.le_refl _))).mono ?_
          rintro _ w14 ⟨rfl, b14⟩
          have S14 : Hid (RtS w w14 #[.slice ax la.length cx, .slice ay lb.length cy, .int .i64 ca, .int .i64 im, .float .f64 x] y0 ∧ RtC w w14 y1 (chA ⟨1, fe, fn, nr, 0⟩)) := ⟨S13.out.1.later b14, S13.out.2.later b14⟩
          have d0 : w14.cell? ⟨y1, 0, none⟩ = some (.int .i8 1) := cellAt S14.out.2.row rfl
          clear b14 S13 HS13 c0
          go_wp2_with fail
          go_ret
          exact ⟨rfl, S14.out.1.r.bel⟩

end Go.Proofs.YtljghfglabgckaaDoor
