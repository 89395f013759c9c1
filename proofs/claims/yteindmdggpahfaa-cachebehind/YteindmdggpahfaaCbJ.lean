/- What Behind of a cache of transactions answers. -/
import Derived.Test.YteindmdggpahfaaCbI
import Derived.Test.YteindmdggpahfaaZx
import Derived.Test.YteindmdggpahfaaMineR
import Derived.Test.YteindmdggpahfaaRangeA
namespace Go.Proofs.Yteindmdggpahfaa
open Go.RowKit Go.Shelf
set_option maxRecDepth 8000
attribute [local go_sem] Oper.semAt_some

theorem isNoneT {w : World} {p m : Nat} {css : List (List Value)} {l : List TxD} (h : IsTs w p m css l) : Calls Try.prog 22 #[.pointer (some ⟨p, 0, none⟩)] w fun e w' => e = .returned (.bool false) ∧ w' = w := by
  obtain ⟨_, _, f, hr, hf⟩ := h.rg
  have c := hr.cell (i := 1027) (by omega)
  rw [hf.made] at c
  have hl := hr.lt
  clear hr hf h
  go_enter Try.func22, Try.ntmps22
  go_wp2
  all_goals (go_ret; exact ⟨rfl, rfl⟩)

theorem bsl16 {x : List Value} (h : TxForm x) (w : World) : (Instr.buildSlice 25 1 #[(0, .agg x.toArray)]).run Try.prog w = .ok (.slice (some ⟨w.heap.size, 0, none⟩) 1 1) (w.alloc (.cells x.toArray 43)) := by
  obtain ⟨_, _, _, _, _, _, _, _, _, _, _, _, _, _, _, _, _, _, _, _, _, _, _, _, rfl⟩ := h
  kernel_rfl

/-- The operations of Behind's append. -/
def beh7Ops : Array Oper := #[{ dst := some 30, op := Op.load 25 (Operand.tmp 8), type := 25, pos := "cache.go:76", after := #[], guard := none }, { dst := some 31, op := Op.load 43 (Operand.tmp 10), type := 43, pos := "cache.go:76", after := #[], guard := none }, { dst := some 32, op := Op.call { callee := Callee.value (Operand.func 20), args := #[Operand.tmp 31], argTypes := #[43] }, type := 43, pos := "cache.go:76", after := #[{ on := 1, ground := Ground.data }], guard := none }, { dst := some 33, op := Op.buildSlice 25 1 #[(0, Operand.tmp 32)], type := 25, pos := "cache.go:76", after := #[{ on := 2, ground := Ground.data }], guard := none }, { dst := some 34, op := Op.call { callee := Callee.builtin Builtin.append, args := #[Operand.tmp 30, Operand.tmp 33], argTypes := #[25, 25] }, type := 25, pos := "cache.go:76", after := #[{ on := 0, ground := Ground.data }, { on := 3, ground := Ground.data }, { on := 2, ground := Ground.chain }], guard := none }, { dst := none, op := Op.store 25 (Operand.tmp 8) (Operand.tmp 34), type := 0, pos := "cache.go:76", after := #[{ on := 4, ground := Ground.data }, { on := 4, ground := Ground.chain }, { on := 0, ground := Ground.phase }, { on := 1, ground := Ground.phase }, { on := 2, ground := Ground.phase }, { on := 3, ground := Ground.phase }, { on := 4, ground := Ground.phase }], guard := none }]

theorem beh7_nd : ∀ (i : Nat) (o : Oper), beh7Ops[i]? = some o → ∀ c, o.op ≠ .defer c := by
  intro i o ho c
  have h : ∀ o ∈ beh7Ops.toList, ∀ c, o.op ≠ .defer c := by simp [beh7Ops]
  exact h o (by rw [← Array.mem_def]; exact Array.mem_of_getElem? ho) c

/-- Is a transaction above a zxid? -/
def abvZ (ze zn : Int) (t : TxD) : Bool := decide (0 < zcmp t.ep t.n ze zn)

/-- What Behind answers. -/
def BehA (ze zn ae an : Int) (l : List TxD) (w : World) (e : Ending) (w' : World) : Prop :=
  Below w.heap.size w w' ∧ ((zcmp ze zn ae an < 0 ∧ e = .returned (.tuple #[.slice none 0 0, .bool false])) ∨ (0 ≤ zcmp ze zn ae an ∧ ∃ v, e = .returned (.tuple #[v, .bool true]) ∧ SeesTxs w' v (l.filter (abvZ ze zn))))

set_option maxHeartbeats 2000000 in
theorem behind_any {w : World} {p m : Nat} {css : List (List Value)} {l : List TxD} (h : IsTs w p m css l) (hp : ∀ t ∈ l, t.rq.parts ≤ 20000) (ze zn ae an : Int) :
    Calls Try.prog 8 #[.pointer (some ⟨p, 0, none⟩), zx ze zn, zx ae an] w (BehA ze zn ae an l w) := by
  have HH : Hid (IsTs w p m css l ∧ ∀ t ∈ l, t.rq.parts ≤ 20000) := ⟨h, hp⟩
  have hlp := h.rg.lt
  clear h hp
  refine (callsIn_wide (n := 0)).1 ?_
  refine callsIn_of_wp_marks Try.func8 rfl trivial ?_ rfl
  simp only [Try.ntmps8, List.size_toArray, List.length_cons, List.length_nil, Nat.reduceAdd, Nat.reduceSub, Array.replicate_succ, Array.replicate_zero, List.push_toArray, List.append_toArray, List.nil_append, List.cons_append]
  gi_wp2_with fail
  obtain ⟨V, hV⟩ : ∃ V, V = (w.alloc (.cells #[.int .u32 ze, .int .u32 zn] 24)).alloc (.cells #[.int .u32 ae, .int .u32 an] 24) := ⟨_, rfl⟩
  have hbV : Below w.heap.size w V := by rw [hV]; exact two_alloc _ _ _
  have r0 : V.heap[w.heap.size]? = some (.cells #[.int .u32 ze, .int .u32 zn] 24 (0, 0)) := by rw [hV, Below.heap_alloc _ _ _ (by simp)]; exact heap_alloc_new _ _
  have r1 : V.heap[w.heap.size + 1]? = some (.cells #[.int .u32 ae, .int .u32 an] 24 (0, 0)) := by rw [hV]; have := heap_alloc_new (w.alloc (.cells #[.int .u32 ze, .int .u32 zn] 24)) (.cells #[.int .u32 ae, .int .u32 an] 24 (0, 0)); simpa using this
  rw [← hV]
  clear hV
  refine ⟨trivial, rfl, (callsIn_wide.2 (isNoneT (HH.out.1.below hbV))).mono ?_⟩
  rintro e w1 ⟨rfl, rfl⟩
  have c0 := cell_of_row _ _ 0 _ _ _ r0
  have c1 := cell_of_row _ _ 1 _ _ _ r0
  have d0 := cell_of_row _ _ 0 _ _ _ r1
  have d1 := cell_of_row _ _ 1 _ _ _ r1
  have H1 : Hid (Below w.heap.size w w1 ∧ w1.heap[w.heap.size]? = some (.cells #[.int .u32 ze, .int .u32 zn] 24 (0, 0))) := ⟨hbV, r0⟩
  clear hbV r0 r1
  simp at c0 c1 d0 d1
  gi_wp2_with fail
  refine ⟨trivial, rfl, (callsIn_wide.2 (compare_any ze zn ae an w1)).mono ?_⟩
  rintro e w2 ⟨rfl, b2⟩
  have H2 : Hid (Below w.heap.size w w2 ∧ w2.heap[w.heap.size]? = some (.cells #[.int .u32 ze, .int .u32 zn] 24 (0, 0))) := ⟨H1.out.1.trans (b2.mono H1.out.1.size), (b2.block _ (lt_of_block H1.out.2)).trans H1.out.2⟩
  clear H1 b2 c0 c1 d0 d1
  obtain ⟨cz, hcz⟩ : ∃ cz, cz = zcmp ze zn ae an := ⟨_, rfl⟩
  have HZ : Hid _ := hcz
  rw [← hcz]
  clear hcz
  by_cases hneg : cz < 0
  · gi_wp2_with fail
    show LeavesInM _ _ _ _ _ _ [] .returning _
    refine ⟨.tuple #[.slice none 0 0, .bool false], ?_, H2.out.1, .inl ⟨by rw [← HZ.out]; exact hneg, rfl⟩⟩
    exact results_tmp2 (fn := Try.f8) (t := 6) (u := 7) (by kernel_rfl) _ _ _
  · gi_wp2_with fail
    obtain ⟨U, hU⟩ : ∃ U, U = w2.alloc (.cells #[.slice none 0 0] 25) := ⟨_, rfl⟩
    have bU : U.heap[w2.heap.size]? = some (.cells #[.slice none 0 0] 25 (0, 0)) := by rw [hU]; exact heap_alloc_new _ _
    have BU : Below w2.heap.size w2 U := by rw [hU]; exact one_alloc _ _
    rw [← hU]
    clear hU
    have hwU : Below w.heap.size w U := H2.out.1.trans (BU.mono H2.out.1.size)
    refine ⟨trivial, rfl, (callsIn_wide.2 (allZ_any (HH.out.1.below hwU).rg)).mono ?_⟩
    rintro e w3 ⟨rfl, rz, b3⟩
    obtain ⟨c0, hc0⟩ : ∃ c0, c0 = U.heap.size := ⟨_, rfl⟩
    obtain ⟨bo, hbo⟩ : ∃ bo, bo = w2.heap.size := ⟨_, rfl⟩
    have hs2 := H2.out.1.size
    have lz := lt_of_block H2.out.2
    have lbo := lt_of_block bU
    rw [← hc0] at rz ⊢
    rw [← hbo] at bU lbo ⊢
    have hcB : bo < c0 := by omega
    have hzB : w.heap.size < bo := by omega
    have hB3 : Below w.heap.size w w3 := hwU.trans (b3.mono hwU.size)
    have z3 : w3.heap[w.heap.size]? = some (.cells #[.int .u32 ze, .int .u32 zn] 24 (0, 0)) := by
      rw [b3.block _ (by omega), BU.block _ lz]; exact H2.out.2
    have o3 : w3.heap[bo]? = some (.cells #[.slice none 0 0] 25 (0, 0)) := by
      rw [b3.block _ (by omega)]; exact bU
    have hc3 : c0 < w3.heap.size := rz.lt
    have H3 : Hid (IsRz 64 1027 w3 c0 m css ∧ (∀ x ∈ css, TxForm x) ∧ Below w.heap.size w w3) := ⟨rz, HH.out.1.form, hB3⟩
    clear rz b3 BU bU hwU hc0 hbo H2 hs2 lz lbo hB3
    gi_wp2_with fail
    refine range_A (gf := 31) (lb := #[.pointer (some ⟨c0, 0, none⟩)]) rfl (enters_of Try.func31 (by kernel_rfl) rfl)
      (all1Z_seq c0 m css w3 H3.out.1 H3.out.2.1) (fun _ => rfl) (fun k hk => by omega)
      (fun D pre W => ∃ v es, GT (w.heap.size + 1) bo D v es ((l.take pre.length).filter (abvZ ze zn)) W ∧ W.heap[w.heap.size]? = some (.cells #[.int .u32 ze, .int .u32 zn] 24 (0, 0)) ∧ ¬ D w.heap.size ∧ Mine w.heap.size w (fun k => k = c0) D W)
      (fun _ _ _ _ => False)
      (fun D D' s W W' h hk hD => by
        obtain ⟨v, es, h1, h2, h3, h4⟩ := h
        exact ⟨v, es, h1.stays hk hD, hk.heap h2 (fun hd => h3 hd.1), keep_new h2 h3 hD, h4.stays hk hD⟩)
      (fun _ _ _ _ _ _ h _ _ => h)
      ⟨.slice none 0 0, [], ⟨o3, World.ownsRow_nil _ _ _ _, rfl, fun j hj => by simp at hj, by omega, fun k e => by simp [Value.ownBlock] at e, fun k e => by omega, by omega⟩, z3, by omega, Nat.le_refl _, H3.out.2.2, fun k h1 h2 => absurd h1 h2⟩
      (fun x W => { tmps := #[.pointer (some ⟨p, 0, none⟩), zx ze zn, zx ae an, undef, .pointer (some ⟨w.heap.size, 0, none⟩), .pointer (some ⟨w.heap.size + 1, 0, none⟩), .slice none 0 0, .bool false, .pointer (some ⟨bo, 0, none⟩), undef, .pointer (some ⟨W.heap.size, 0, none⟩), .pointer (some ⟨p, 0, none⟩), .bool false, .bool false, .agg #[.int .u32 ze, .int .u32 zn], .agg #[.int .u32 ae, .int .u32 an], .int .i64 cz, .bool (decide (cz < 0)), .bool (decide (cz < 0)), .pointer (some ⟨p, 0, none⟩), .pointer (some ⟨p, 0, none⟩), .pointer (some ⟨p, 0, none⟩), .func (.func 31) #[] #[.pointer (some ⟨c0, 0, none⟩)], .int .i64 (x : Int), .agg (css.getD x []).toArray, undef, undef, undef, undef, undef, undef, undef, undef, undef, undef, undef], defers := [] }) (fun x W => (W.alloc (.cells txZ.toArray 43)).setRow W.heap.size (css.getD x []).toArray) (fun x W => (Below.kept (rowZ W 43 txZ.toArray (css.getD x []).toArray).2.2).mono (fun k h1 h2 => by omega)) ?assign ?body ?done ?stop
    case assign =>
      rintro l pre x Wb W K ⟨hxe, hx⟩ hK
      obtain ⟨xs, hxs⟩ : ∃ xs, xs = css.getD x [] := ⟨_, rfl⟩
      have hfx : TxForm xs := H3.out.2.1 xs (by rw [hxs, List.getD_eq_getElem?_getD, List.getElem?_eq_getElem hx]; exact List.getElem_mem hx)
      have q2 : (Try.prog.info? 43).map (·.size) = some xs.toArray.size := by rw [List.size_toArray, hfx.len]; exact tx16
      have hsz : (txZ.toArray).size = xs.toArray.size := by rw [List.size_toArray, List.size_toArray, hfx.len]; rfl
      have hone := hfx.one
      obtain ⟨s1, _, _⟩ := rowZ W 43 txZ.toArray xs.toArray
      simp only [allEncZ]
      rw [← hxs] at hK ⊢
      clear hxs hfx hx hxe
      gi_wp2_with (refine inStore_row rfl 43 _ _ rfl W.heap.size xs.toArray rfl rfl 43 _ s1 q2 hsz hone ?_)
      exact hK
    case body =>
      rintro k0 D pre x Wb W0 o hk0 hlt hDk hsub ⟨v, es, hG, hz, hnz, hm⟩ hkb ⟨hxe, hx⟩
      obtain ⟨xs, hxs⟩ : ∃ xs, xs = css.getD x [] := ⟨_, rfl⟩
      rw [← hxs]
      dsimp only
      have hxl : x < l.length := by rw [← HH.out.1.len]; exact hx
      obtain ⟨t, ht⟩ : ∃ t, t = l[x] := ⟨_, rfl⟩
      obtain ⟨rc, hrc, hrq⟩ := HH.out.1.tx x hx hxl
      rw [← ht] at hrc hrq
      have hxe2 : xs = txHead t ++ rc := by rw [hxs, ← hrc, List.getD_eq_getElem?_getD, List.getElem?_eq_getElem hx]; rfl
      have hpt : t.rq.parts ≤ 20000 := HH.out.2 t (by rw [ht]; exact List.getElem_mem hxl)
      have hlf : ((l.take pre.length).filter (abvZ ze zn)).length ≤ 64 := by
        have h1 := List.length_filter_le (abvZ ze zn) (l.take pre.length)
        have h2 : l.length ≤ 64 := by rw [← HH.out.1.len]; obtain ⟨_, _, _, _, hf⟩ := H3.out.1; have := hf.few; have := hf.most; omega
        rw [List.length_take] at h1
        omega
      obtain ⟨s1, rr, bb⟩ := rowZ W0 43 txZ.toArray xs.toArray
      obtain ⟨Wq, hWq⟩ : ∃ Wq, Wq = ((W0.alloc (.cells txZ.toArray 43)).setRow W0.heap.size xs.toArray).putObj k0 o := ⟨_, rfl⟩
      have hkq : Kept W0 Wq (fun k => k = k0) := by rw [hWq]; exact ((Below.kept bb).mono (S' := fun k => k = k0) (fun k h1 h2 => by omega)).trans (kept_putObj _ k0 o) (fun k _ e => e)
      obtain ⟨bx, hbx⟩ : ∃ bx, bx = W0.heap.size := ⟨_, rfl⟩
      have rq : Wq.heap[bx]? = some (.cells xs.toArray 43 (0, 0)) := by rw [hWq, hbx]; exact (World.putObj_heap_other (by omega)).trans rr
      have hG0 := hG.stays hkb (fun k e => .inl e)
      have hGq : GT (w.heap.size + 1) bo D v es ((l.take pre.length).filter (abvZ ze zn)) Wq := hG0.stays (D0 := fun _ => False) (hkq.mono (fun k _ e => ⟨by rw [e]; exact hDk, fun h => h⟩)) (fun k e => .inl e)
      have hz0 := hkb.heap hz (fun e => hnz e.1)
      have hzq := hkq.heap hz0 (fun e => hnz (by rw [e]; exact hDk))
      have hmq : Mine w.heap.size w (fun k => k = c0) D Wq := (hm.stays hkb (fun k e => .inl e)).stays (hkq.mono (fun k _ e => ⟨by rw [e]; exact hDk, by omega⟩)) (fun k e => .inl e)
      have hsq : SeesTx Wq xs t := ⟨rc, hxe2, RqIn.sees (RqIn.kept (Below.kept hmq.2.1) (F' := fun _ => True) (fun q hq => ⟨by omega, trivial⟩) hrq)⟩
      have hlxs := hsq.len
      have q1 : (Try.prog.info? 43).map (·.size) = some xs.length := by rw [hlxs]; exact tx16
      have e0 : Wq.cell? ⟨bx, 0, none⟩ = some (.int .u32 t.ep) := by rw [cell_of_row _ _ _ _ _ _ rq, hxe2]; rfl
      have e1 : Wq.cell? ⟨bx, 1, none⟩ = some (.int .u32 t.n) := by rw [cell_of_row _ _ _ _ _ _ rq, hxe2]; rfl
      have f0 : Wq.cell? ⟨w.heap.size, 0, none⟩ = some (.int .u32 ze) := cell_of_row _ _ _ _ _ _ hzq
      have f1 : Wq.cell? ⟨w.heap.size, 1, none⟩ = some (.int .u32 zn) := cell_of_row _ _ _ _ _ _ hzq
      have lq := lt_of_block rq
      have hdb : ¬ D bx := fun e => by have := hG0.dl bx e; omega
      have hbxb : bx ≠ bo := by have := lt_of_block hG0.box; omega
      have hvbb : ∀ k, v.ownBlock = some k → k ≠ bx := fun k e => by have := (hG0.own.lt k e).2; omega
      have hnx : l.take (pre ++ [x]).length = l.take pre.length ++ [t] := by
        rw [List.length_append, ← hxe, ht]
        exact List.take_succ_eq_append_getElem hxl
      have HQ : Hid (GT (w.heap.size + 1) bo D v es ((l.take pre.length).filter (abvZ ze zn)) Wq ∧ Wq.heap[w.heap.size]? = some (.cells #[.int .u32 ze, .int .u32 zn] 24 (0, 0)) ∧ ¬ D w.heap.size ∧ Mine w.heap.size w (fun k => k = c0) D Wq ∧ SeesTx Wq xs t ∧ Wq.heap[bx]? = some (.cells xs.toArray 43 (0, 0)) ∧ ¬ D bx ∧ l.take (pre ++ [x]).length = l.take pre.length ++ [t] ∧ t.rq.parts ≤ 20000 ∧ ((l.take pre.length).filter (abvZ ze zn)).length ≤ 64) := ⟨hGq, hzq, hnz, hmq, hsq, rq, hdb, hnx, hpt, hlf⟩
      rw [← hWq, ← hbx]
      clear hWq hbx s1 rr bb hkq hG hG0 hGq hz hz0 hzq hm hmq hsq hrq hrc hxe2 hkb hpt hxe hx hxs ht hdb rq hnx hlf hxl hlxs
      gi_wp2_with fail
      refine ⟨trivial, rfl, (callsIn_round (compare_any t.ep t.n ze zn Wq)).mono ?_⟩
      rintro e w5 ⟨rfl, b5⟩
      have H5 : Hid (Below Wq.heap.size Wq w5) := b5
      clear b5 e0 e1 f0 f1
      obtain ⟨c9, hc9⟩ : ∃ c9, c9 = zcmp t.ep t.n ze zn := ⟨_, rfl⟩
      have H9 : Hid (abvZ ze zn t = decide (0 < c9)) := by rw [hc9]; rfl
      rw [← hc9]
      clear hc9
      by_cases hab : 0 < c9
      · gi_wp2_with fail
        have rb5 := (H5.out.block _ (lt_of_block HQ.out.2.2.2.2.2.1)).trans HQ.out.2.2.2.2.2.1
        have lb5 : bx < w5.drew.heap.size := lt_of_block rb5
        have HG5 : Hid (GT (w.heap.size + 1) bo D v es ((l.take pre.length).filter (abvZ ze zn)) w5.drew) := (HQ.out.1.later H5.out).later (below_drewN (Below.refl _ _) 1)
        have g5 : w5.drew.rangeAt bx 0 xs := fun j u hj => by
          have : w5.cell? ⟨bx, 0 + j, none⟩ = some u := by rw [Nat.zero_add, cell_of_row _ _ _ _ _ _ rb5, List.getElem?_toArray]; exact hj
          exact this
        have k5 : w5.drew.cell? ⟨bo, 0, none⟩ = some v := cell_of_row _ _ _ _ _ _ HG5.out.box
        have hbxo : bx ≠ bo := hbxb
        have hvb : ∀ k, v.ownBlock = some k → k ≠ bx := hvbb
        clear rb5
        refine wpIn_region_heldR (S := (fun W => W.rangeAt bx 0 xs)) (by kernel_rfl) (fun i o ho c hc => beh7_nd i o ho c hc) (by rintro ⟨_, _, h⟩; exact h) ?_ (fun hHeld => ?_)
        · exact g5
        refine wpAnyH_take (i := 1) (oi := { dst := some 31, op := Op.load 43 (Operand.tmp 10), type := 43, pos := "cache.go:76", after := #[], guard := none }) (v := .agg xs.toArray) rfl (by kernel_rfl) (by kernel_rfl) (by kernel_rfl) (fun _ _ _ h => h) (yieldsIf_load_mid rfl 43 _ rfl bx 0 rfl xs _ (fun _ h => h) Try.underlying43 rfl q1) (by assumption) ?_
        try simp only [Act.put, List.setIfInBounds_toArray, List.set_cons_zero, List.set_cons_succ]
        refine wpAnyH_ready (rs := [0, 2]) (by kernel_rfl) (by simp) ?_
        refine AllReadyH.cons (o := { dst := some 30, op := Op.load 25 (Operand.tmp 8), type := 25, pos := "cache.go:76", after := #[], guard := none }) rfl (fun K hK => ?_) (AllReadyH.cons (o := { dst := some 32, op := Op.call { callee := Callee.value (Operand.func 20), args := #[Operand.tmp 31], argTypes := #[43] }, type := 43, pos := "cache.go:76", after := #[{ on := 1, ground := Ground.data }], guard := none }) rfl (fun K hK => ?_) AllReadyH.nil)
        · go_simp
          refine hK.out _ _ (by first | (with_reducible exact g7) | (with_reducible exact g6) | (with_reducible exact g5)) (fun hHeld => ?_)
          clear hK K
          refine wpAnyH_ready (rs := [2]) (by kernel_rfl) (by simp) ?_
          refine AllReadyH.cons (o := { dst := some 32, op := Op.call { callee := Callee.value (Operand.func 20), args := #[Operand.tmp 31], argTypes := #[43] }, type := 43, pos := "cache.go:76", after := #[{ on := 1, ground := Ground.data }], guard := none }) rfl (fun K hK => ?_) AllReadyH.nil
          go_simp
          refine (clone_any xs t _ (HQ.out.2.2.2.2.1.below (below_drewN H5.out 1) (Nat.le_refl _)) HQ.out.2.2.2.2.2.2.2.2.1).mono ?_
          rintro _ w6 ⟨ds, rfl, hr6, b6⟩
          obtain ⟨v', w7, hrun, hc7, hf7, hG7, hk7, hkk, hb7, vb, vc, hv'⟩ := GT.round (HG5.out) t ds b6 hr6 (by have := HQ.out.2.2.2.2.2.2.2.2.2; omega)
          have g6 : w6.rangeAt bx 0 xs := fun j u hj => cell_later (g5 j u hj) b6 (Nat.le_refl _)
          have k6 : w6.cell? ⟨bo, 0, none⟩ = some v := cell_later k5 b6 (Nat.le_refl _)
          have hbs := bsl16 (tx_form hr6.sees) w6
          have g7 : (w6.alloc (.cells (txHead t ++ ds).toArray 43)).rangeAt bx 0 xs := fun j u hj => cell_later (g6 j u hj) (one_alloc w6 (.cells (txHead t ++ ds).toArray 43 (0, 0))) (Nat.le_refl _)
          have k7 : (w6.alloc (.cells (txHead t ++ ds).toArray 43)).cell? ⟨bo, 0, none⟩ = some v := cell_later k6 (one_alloc w6 (.cells (txHead t ++ ds).toArray 43 (0, 0))) (Nat.le_refl _)
          have nbx : v.ownBlock ≠ some bx := fun e => hvb bx e rfl
          have g8 : w7.rangeAt bx 0 xs := fun j u hj => (World.cell?_of_block (hkk.block bx lb5 nbx)).trans (g5 j u hj)
          have g9 : (w7.setCell ⟨bo, 0, none⟩ v').rangeAt bx 0 xs := fun j u hj => (World.cell?_of_block (Below.heap_setCell _ _ _ _ hbxo)).trans (g8 j u hj)
          have H7 : Hid (GT (w.heap.size + 1) bo D v' (es ++ [txHead t ++ ds]) ((l.take pre.length).filter (abvZ ze zn) ++ [t]) (w7.setCell ⟨bo, 0, none⟩ v') ∧ Kept w5.drew (w7.setCell ⟨bo, 0, none⟩ v') (fun k => ¬ D k) ∧ Below (w.heap.size + 1) w5.drew (w7.setCell ⟨bo, 0, none⟩ v')) := ⟨hG7, hk7, hb7⟩
          subst hv'
          clear hr6 b6 hG7 hk7 hb7 hkk
          refine hK.out _ _ g6 (fun hHeld => ?_)
          clear hK K
          refine wpAnyH_ready (rs := [3]) (by kernel_rfl) (by simp) ?_
          refine AllReadyH.cons (o := { dst := some 33, op := Op.buildSlice 25 1 #[(0, Operand.tmp 32)], type := 25, pos := "cache.go:76", after := #[{ on := 2, ground := Ground.data }], guard := none }) rfl (fun K hK => ?_) AllReadyH.nil
          refine (if_pos (by kernel_rfl)).mpr ?_
          refine wp_bsl1 25 _ rfl (.agg (txHead t ++ ds).toArray) _ _ rfl hbs ?_
          refine hK.out _ _ g7 (fun hHeld => ?_)
          clear hK K
          refine wpAnyH_ready (rs := [4]) (by kernel_rfl) (by simp) ?_
          refine AllReadyH.cons (o := { dst := some 34, op := Op.call { callee := Callee.builtin Builtin.append, args := #[Operand.tmp 30, Operand.tmp 33], argTypes := #[25, 25] }, type := 25, pos := "cache.go:76", after := #[{ on := 0, ground := Ground.data }, { on := 3, ground := Ground.data }, { on := 2, ground := Ground.chain }], guard := none }) rfl (fun K hK => ?_) AllReadyH.nil
          refine (if_pos (by kernel_rfl)).mpr ?_
          refine wp_appR _ _ 25 rfl v _ _ w7 rfl rfl hrun ?_
          refine hK.out _ _ g8 (fun hHeld => ?_)
          clear hK K
          refine wpAnyH_ready (rs := [5]) (by kernel_rfl) (by simp) ?_
          refine AllReadyH.cons (o := { dst := none, op := Op.store 25 (Operand.tmp 8) (Operand.tmp 34), type := 0, pos := "cache.go:76", after := #[{ on := 4, ground := Ground.data }, { on := 4, ground := Ground.chain }, { on := 0, ground := Ground.phase }, { on := 1, ground := Ground.phase }, { on := 2, ground := Ground.phase }, { on := 3, ground := Ground.phase }, { on := 4, ground := Ground.phase }], guard := none }) rfl (fun K hK => ?_) AllReadyH.nil
          go_simp
          refine hK.out _ _ g9 (fun hHeld => ?_)
          clear hK K
          refine wpAnyH_done (by kernel_rfl) ?_ _
          clear hHeld g5 g6 g7 g8 g9 k5 k6 k7 hc7 hf7 hbs hrun
          have h59 : Below Wq.heap.size Wq w5.drew := below_drewN H5.out 1
          have e9 : ((l.take (pre ++ [x]).length).filter (abvZ ze zn)) = (l.take pre.length).filter (abvZ ze zn) ++ [t] := by rw [HQ.out.2.2.2.2.2.2.2.1, List.filter_append, List.filter_cons_of_pos (by rw [H9.out]; simpa using hab), List.filter_nil]
          refine ⟨((Below.kept h59).mono (fun k h1 h2 => by omega)).trans H7.out.2.1 (fun k _ e => e), _, _, by rw [e9]; exact H7.out.1, ?_, HQ.out.2.2.1, HQ.out.2.2.2.1.1, ?_, HQ.out.2.2.2.1.2.2⟩
          · rw [H7.out.2.2.block _ (by omega), h59.block _ (lt_of_block HQ.out.2.1)]; exact HQ.out.2.1
          · exact HQ.out.2.2.2.1.2.1.trans ((h59.mono (by have := lt_of_block HQ.out.2.1; omega)).trans (H7.out.2.2.mono (by omega)))
        · go_simp
          refine (clone_any xs t _ (HQ.out.2.2.2.2.1.below (below_drewN H5.out 1) (Nat.le_refl _)) HQ.out.2.2.2.2.2.2.2.2.1).mono ?_
          rintro _ w6 ⟨ds, rfl, hr6, b6⟩
          obtain ⟨v', w7, hrun, hc7, hf7, hG7, hk7, hkk, hb7, vb, vc, hv'⟩ := GT.round (HG5.out) t ds b6 hr6 (by have := HQ.out.2.2.2.2.2.2.2.2.2; omega)
          have g6 : w6.rangeAt bx 0 xs := fun j u hj => cell_later (g5 j u hj) b6 (Nat.le_refl _)
          have k6 : w6.cell? ⟨bo, 0, none⟩ = some v := cell_later k5 b6 (Nat.le_refl _)
          have hbs := bsl16 (tx_form hr6.sees) w6
          have g7 : (w6.alloc (.cells (txHead t ++ ds).toArray 43)).rangeAt bx 0 xs := fun j u hj => cell_later (g6 j u hj) (one_alloc w6 (.cells (txHead t ++ ds).toArray 43 (0, 0))) (Nat.le_refl _)
          have k7 : (w6.alloc (.cells (txHead t ++ ds).toArray 43)).cell? ⟨bo, 0, none⟩ = some v := cell_later k6 (one_alloc w6 (.cells (txHead t ++ ds).toArray 43 (0, 0))) (Nat.le_refl _)
          have nbx : v.ownBlock ≠ some bx := fun e => hvb bx e rfl
          have g8 : w7.rangeAt bx 0 xs := fun j u hj => (World.cell?_of_block (hkk.block bx lb5 nbx)).trans (g5 j u hj)
          have g9 : (w7.setCell ⟨bo, 0, none⟩ v').rangeAt bx 0 xs := fun j u hj => (World.cell?_of_block (Below.heap_setCell _ _ _ _ hbxo)).trans (g8 j u hj)
          have H7 : Hid (GT (w.heap.size + 1) bo D v' (es ++ [txHead t ++ ds]) ((l.take pre.length).filter (abvZ ze zn) ++ [t]) (w7.setCell ⟨bo, 0, none⟩ v') ∧ Kept w5.drew (w7.setCell ⟨bo, 0, none⟩ v') (fun k => ¬ D k) ∧ Below (w.heap.size + 1) w5.drew (w7.setCell ⟨bo, 0, none⟩ v')) := ⟨hG7, hk7, hb7⟩
          subst hv'
          clear hr6 b6 hG7 hk7 hb7 hkk
          refine hK.out _ _ g6 (fun hHeld => ?_)
          clear hK K
          refine wpAnyH_ready (rs := [0, 3]) (by kernel_rfl) (by simp) ?_
          refine AllReadyH.cons (o := { dst := some 30, op := Op.load 25 (Operand.tmp 8), type := 25, pos := "cache.go:76", after := #[], guard := none }) rfl (fun K hK => ?_) (AllReadyH.cons (o := { dst := some 33, op := Op.buildSlice 25 1 #[(0, Operand.tmp 32)], type := 25, pos := "cache.go:76", after := #[{ on := 2, ground := Ground.data }], guard := none }) rfl (fun K hK => ?_) AllReadyH.nil)
          · go_simp
            refine hK.out _ _ (by first | (with_reducible exact g7) | (with_reducible exact g6) | (with_reducible exact g5)) (fun hHeld => ?_)
            clear hK K
            refine wpAnyH_ready (rs := [3]) (by kernel_rfl) (by simp) ?_
            refine AllReadyH.cons (o := { dst := some 33, op := Op.buildSlice 25 1 #[(0, Operand.tmp 32)], type := 25, pos := "cache.go:76", after := #[{ on := 2, ground := Ground.data }], guard := none }) rfl (fun K hK => ?_) AllReadyH.nil
            refine (if_pos (by kernel_rfl)).mpr ?_
            refine wp_bsl1 25 _ rfl (.agg (txHead t ++ ds).toArray) _ _ rfl hbs ?_
            refine hK.out _ _ g7 (fun hHeld => ?_)
            clear hK K
            refine wpAnyH_ready (rs := [4]) (by kernel_rfl) (by simp) ?_
            refine AllReadyH.cons (o := { dst := some 34, op := Op.call { callee := Callee.builtin Builtin.append, args := #[Operand.tmp 30, Operand.tmp 33], argTypes := #[25, 25] }, type := 25, pos := "cache.go:76", after := #[{ on := 0, ground := Ground.data }, { on := 3, ground := Ground.data }, { on := 2, ground := Ground.chain }], guard := none }) rfl (fun K hK => ?_) AllReadyH.nil
            refine (if_pos (by kernel_rfl)).mpr ?_
            refine wp_appR _ _ 25 rfl v _ _ w7 rfl rfl hrun ?_
            refine hK.out _ _ g8 (fun hHeld => ?_)
            clear hK K
            refine wpAnyH_ready (rs := [5]) (by kernel_rfl) (by simp) ?_
            refine AllReadyH.cons (o := { dst := none, op := Op.store 25 (Operand.tmp 8) (Operand.tmp 34), type := 0, pos := "cache.go:76", after := #[{ on := 4, ground := Ground.data }, { on := 4, ground := Ground.chain }, { on := 0, ground := Ground.phase }, { on := 1, ground := Ground.phase }, { on := 2, ground := Ground.phase }, { on := 3, ground := Ground.phase }, { on := 4, ground := Ground.phase }], guard := none }) rfl (fun K hK => ?_) AllReadyH.nil
            go_simp
            refine hK.out _ _ g9 (fun hHeld => ?_)
            clear hK K
            refine wpAnyH_done (by kernel_rfl) ?_ _
            clear hHeld g5 g6 g7 g8 g9 k5 k6 k7 hc7 hf7 hbs hrun
            have h59 : Below Wq.heap.size Wq w5.drew := below_drewN H5.out 1
            have e9 : ((l.take (pre ++ [x]).length).filter (abvZ ze zn)) = (l.take pre.length).filter (abvZ ze zn) ++ [t] := by rw [HQ.out.2.2.2.2.2.2.2.1, List.filter_append, List.filter_cons_of_pos (by rw [H9.out]; simpa using hab), List.filter_nil]
            refine ⟨((Below.kept h59).mono (fun k h1 h2 => by omega)).trans H7.out.2.1 (fun k _ e => e), _, _, by rw [e9]; exact H7.out.1, ?_, HQ.out.2.2.1, HQ.out.2.2.2.1.1, ?_, HQ.out.2.2.2.1.2.2⟩
            · rw [H7.out.2.2.block _ (by omega), h59.block _ (lt_of_block HQ.out.2.1)]; exact HQ.out.2.1
            · exact HQ.out.2.2.2.1.2.1.trans ((h59.mono (by have := lt_of_block HQ.out.2.1; omega)).trans (H7.out.2.2.mono (by omega)))
          · refine (if_pos (by kernel_rfl)).mpr ?_
            refine wp_bsl1 25 _ rfl (.agg (txHead t ++ ds).toArray) _ _ rfl hbs ?_
            refine hK.out _ _ g7 (fun hHeld => ?_)
            clear hK K
            refine wpAnyH_ready (rs := [0]) (by kernel_rfl) (by simp) ?_
            refine AllReadyH.cons (o := { dst := some 30, op := Op.load 25 (Operand.tmp 8), type := 25, pos := "cache.go:76", after := #[], guard := none }) rfl (fun K hK => ?_) AllReadyH.nil
            go_simp
            refine hK.out _ _ (by first | (with_reducible exact g7) | (with_reducible exact g6) | (with_reducible exact g5)) (fun hHeld => ?_)
            clear hK K
            refine wpAnyH_ready (rs := [4]) (by kernel_rfl) (by simp) ?_
            refine AllReadyH.cons (o := { dst := some 34, op := Op.call { callee := Callee.builtin Builtin.append, args := #[Operand.tmp 30, Operand.tmp 33], argTypes := #[25, 25] }, type := 25, pos := "cache.go:76", after := #[{ on := 0, ground := Ground.data }, { on := 3, ground := Ground.data }, { on := 2, ground := Ground.chain }], guard := none }) rfl (fun K hK => ?_) AllReadyH.nil
            refine (if_pos (by kernel_rfl)).mpr ?_
            refine wp_appR _ _ 25 rfl v _ _ w7 rfl rfl hrun ?_
            refine hK.out _ _ g8 (fun hHeld => ?_)
            clear hK K
            refine wpAnyH_ready (rs := [5]) (by kernel_rfl) (by simp) ?_
            refine AllReadyH.cons (o := { dst := none, op := Op.store 25 (Operand.tmp 8) (Operand.tmp 34), type := 0, pos := "cache.go:76", after := #[{ on := 4, ground := Ground.data }, { on := 4, ground := Ground.chain }, { on := 0, ground := Ground.phase }, { on := 1, ground := Ground.phase }, { on := 2, ground := Ground.phase }, { on := 3, ground := Ground.phase }, { on := 4, ground := Ground.phase }], guard := none }) rfl (fun K hK => ?_) AllReadyH.nil
            go_simp
            refine hK.out _ _ g9 (fun hHeld => ?_)
            clear hK K
            refine wpAnyH_done (by kernel_rfl) ?_ _
            clear hHeld g5 g6 g7 g8 g9 k5 k6 k7 hc7 hf7 hbs hrun
            have h59 : Below Wq.heap.size Wq w5.drew := below_drewN H5.out 1
            have e9 : ((l.take (pre ++ [x]).length).filter (abvZ ze zn)) = (l.take pre.length).filter (abvZ ze zn) ++ [t] := by rw [HQ.out.2.2.2.2.2.2.2.1, List.filter_append, List.filter_cons_of_pos (by rw [H9.out]; simpa using hab), List.filter_nil]
            refine ⟨((Below.kept h59).mono (fun k h1 h2 => by omega)).trans H7.out.2.1 (fun k _ e => e), _, _, by rw [e9]; exact H7.out.1, ?_, HQ.out.2.2.1, HQ.out.2.2.2.1.1, ?_, HQ.out.2.2.2.1.2.2⟩
            · rw [H7.out.2.2.block _ (by omega), h59.block _ (lt_of_block HQ.out.2.1)]; exact HQ.out.2.1
            · exact HQ.out.2.2.2.1.2.1.trans ((h59.mono (by have := lt_of_block HQ.out.2.1; omega)).trans (H7.out.2.2.mono (by omega)))
      · gi_wp2_with fail
        have h59 := H5.out
        refine ⟨(Below.kept h59).mono (fun k h1 h2 => by omega), v, es, ?_, (h59.block _ (lt_of_block HQ.out.2.1)).trans HQ.out.2.1, HQ.out.2.2.1, HQ.out.2.2.2.1.stays ((Below.kept h59).mono (fun k h1 h2 => by omega)) (fun k e => .inl e)⟩
        rw [HQ.out.2.2.2.2.2.2.2.1, List.filter_append, List.filter_cons_of_neg (by rw [H9.out]; simpa using hab), List.filter_nil, List.append_nil]
        exact HQ.out.1.later h59
    case done =>
      rintro d D ys W hd hDd hS ⟨v, es, hG, hz, hnz, hm⟩ hK
      have hc : W.cell? ⟨bo, 0, none⟩ = some v := cell_of_row _ _ _ _ _ _ hG.box
      have hll : l.take ys.length = l := by rw [hS, HH.out.1.len]; exact List.take_length
      rw [hll] at hG
      have HD : Hid (GT (w.heap.size + 1) bo D v es (l.filter (abvZ ze zn)) W ∧ Below w.heap.size w W ∧ W.heap[d]? = some (.deferred (some [])) ∧ D d) := ⟨hG, hm.2.1, hK, hDd⟩
      clear hG hz hm hK hS hll
      gi_wp2
      refine ⟨by simp, .inl ⟨_, _, rfl, run_takeDeferred HD.out.2.2.1, ?_⟩⟩
      refine ⟨.tuple #[v, .bool true], results_tmp2 (fn := Try.f8) (t := 6) (u := 7) (by kernel_rfl) _ _ _, ?_⟩
      refine ⟨HD.out.2.1.trans (belowK_b (w := w) (Nat.le_refl _) W d _ _ (by have := H3.out.2.2.size; omega) HD.out.2.2.1 rfl rfl), .inr ⟨by rw [← HZ.out]; omega, v, rfl, ?_⟩⟩
      exact (HD.out.1.stays (D0 := fun _ => False) (D' := D) ((kept_putObj W d _).mono (fun k _ e => ⟨by rw [e]; exact HD.out.2.2.2, fun h => h⟩)) (fun k e => .inl e)).sees
    case stop => exact fun d D c pre W _ _ _ h _ => h.elim
end Go.Proofs.Yteindmdggpahfaa
