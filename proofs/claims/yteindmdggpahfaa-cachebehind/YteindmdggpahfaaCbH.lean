/- cache.NewTxns: a cache that has the last of a list. -/
import Derived.Test.YteindmdggpahfaaCbG
import Derived.Test.YteindmdggpahfaaCbY
import Derived.Test.YteindmdggpahfaaClD
import Derived.Test.YteindmdggpahfaaStA
namespace Go.Proofs.Yteindmdggpahfaa
open Go.RowKit
set_option maxRecDepth 8000

/-- A cache of transactions in memory: the cells of its things; what they are of. -/
structure IsTs (w : World) (p m : Nat) (css : List (List Value)) (l : List TxD) : Prop where
  rg : IsRz 66 1028 w p m css
  len : css.length = l.length
  tx : ∀ i (h : i < css.length) (k : i < l.length), ∃ rc, css[i] = txHead l[i] ++ rc ∧ RqIn w (fun q => q ≠ p ∧ q < w.heap.size) rc l[i].rq

theorem tx_form {w : World} {rc : List Value} {t : TxD} (h : SeesRq w rc t.rq) : TxForm (txHead t ++ rc) := by
  obtain ⟨q0, q1, d0, d1, d2, a0, a1, a2, q4, q5, q6, q7, q8, e0, e1, e2, o0, o1, o2, rfl⟩ := rq_forms h
  exact ⟨_, _, _, _, _, _, _, _, _, _, _, _, _, _, _, _, _, _, _, _, _, _, _, _, rfl⟩

theorem IsTs.form {w : World} {p m : Nat} {css : List (List Value)} {l : List TxD} (h : IsTs w p m css l) : ∀ x ∈ css, TxForm x := fun x hx => by
  obtain ⟨i, hi, rfl⟩ := List.getElem_of_mem hx
  obtain ⟨rc, e, hr⟩ := h.tx i hi (by rw [← h.len]; exact hi)
  rw [e]
  exact tx_form hr.sees

theorem IsTs.below {w w' : World} {p m : Nat} {css : List (List Value)} {l : List TxD} (h : IsTs w p m css l) (hb : Below w.heap.size w w') : IsTs w' p m css l :=
  ⟨h.rg.of_block (hb.block p h.rg.lt), h.len, fun i h1 h2 => by
    obtain ⟨rc, e, hr⟩ := h.tx i h1 h2
    exact ⟨rc, e, RqIn.kept (Below.kept hb) (fun q hq => ⟨by omega, hq.1, Nat.lt_of_lt_of_le hq.2 hb.size⟩) hr⟩⟩

/-- One transaction more, where there is room. -/
theorem IsTs.put {w w' : World} {p m : Nat} {css : List (List Value)} {l : List TxD} {t : TxD} {ds : List Value} (h : IsTs w p m css l) (hm : l.length < m) (hr : RqIn w (fun q => q ≠ p ∧ q < w.heap.size) ds t.rq)
    (hz : IsRz 66 1028 w' p m (lastN m (css ++ [txHead t ++ ds]))) (hk : Kept w w' (· = p)) : IsTs w' p m (css ++ [txHead t ++ ds]) (l ++ [t]) := by
  have hl := h.len
  rw [lastN_short (by simp; omega)] at hz
  refine ⟨hz, by simp [h.len], fun i h1 h2 => ?_⟩
  have hkk : ∀ (rc : List Value) (r : Rq), RqIn w (fun q => q ≠ p ∧ q < w.heap.size) rc r → RqIn w' (fun q => q ≠ p ∧ q < w'.heap.size) rc r := fun rc r h9 => RqIn.kept hk (fun q hq => ⟨hq.1, hq.1, Nat.lt_of_lt_of_le hq.2 hk.size⟩) h9
  by_cases hi : i < css.length
  · obtain ⟨rc, e, h9⟩ := h.tx i hi (by omega)
    exact ⟨rc, by rw [List.getElem_append_left hi, List.getElem_append_left (by omega)]; exact e, by rw [List.getElem_append_left (by omega)]; exact hkk _ _ h9⟩
  · obtain rfl : i = css.length := by simp at h1; omega
    have e2 : (l ++ [t])[css.length] = t := by rw [List.getElem_append_right (by omega)]; simp [hl]
    refine ⟨ds, by rw [List.getElem_append_right (by omega), e2]; simp, by rw [e2]; exact hkk _ _ hr⟩

/-- The place k of a list in memory. -/
theorem txs_rowC {w : World} {v : Value} {l : List TxD} (h : SeesTxs w v l) (k : Nat) (hk : k < l.length) : ∃ b off cap cs, v = .slice (some ⟨b, off, none⟩) l.length cap ∧ SeesTx w cs l[k] ∧ cs.length = 16 ∧ w.rangeAt b (off + k * 16) cs := by
  obtain ⟨cs, ⟨ao, cap, rfl, h1, h2, h0, h3⟩, hl, hs⟩ := h
  rcases h3 with h3 | ⟨b, off, rfl, h3⟩
  · subst h3; simp at hl; omega
  · refine ⟨b, off, cap, cs[k]'(by omega), by rw [hl], hs k (by omega) hk, (hs k (by omega) hk).len, fun j v hj => ?_⟩
    have hj16 : j < 16 := by
      have := (List.getElem?_eq_some_iff.1 hj).1
      rw [(hs k (by omega) hk).len] at this
      exact this
    rw [h3 k (by omega) j hj16, List.getD_eq_getElem?_getD, hj]
    rfl

/-- A transaction laid in a new block. -/
structure BoxC (w W : World) (cs : List Value) : Prop where
  bel : Below w.heap.size w W
  row : W.rangeAt w.heap.size 0 cs

theorem run_fromC (ao : Option Addr) (len cap k : Nat) (h : k ≤ len) (w : World) : (Instr.slice 25 (.slice ao len cap) (some (.int .i64 (k : Int))) none none).run Try.prog w = .ok (sliced ao k len cap 16) w := by
  have ht : Try.prog.underlying 25 = some (.slice (Try.prog.elem 25)) := by kernel_rfl
  have hs : ∀ w, (sizeOf (Try.prog.elem 25)).run Try.prog w = .ok 16 w := fun w => by kernel_rfl
  rw [run_slice_l w 25 ao len cap ht .i64 (k : Int) (by omega) (by omega), hs]
  simp only [Result.andThen, Int.toNat_natCast]

theorem wpList_built2 {P : Program} {ops : Array Oper} {rest : List Oper} {o : Oper} {a : Act} {w : World} {Q : Exit → Act → World → Prop} (hg : o.guard = none) (t : TypeId) (i j : Nat) (x y : Operand) (ho : o.op = .build t #[(i, x), (j, y)])
    (u v : Value) (hx : a.eval x = u) (hy : a.eval y = v) (K : Array Value) (hf : P.built t [(i, u), (j, v)] = some K)
    (h : wpList P ops Q rest (a.put o.dst (.agg K)) w) : wpList P ops Q (o :: rest) a w := by
  have e : ((#[(i, x), (j, y)] : Array (Nat × Operand)).map fun (i, x) => (i, a.eval x)).toList = [(i, u), (j, v)] := by simp [hx, hy]
  exact wpList_build hg t _ ho (by rw [e, hf]; rfl) (by rw [e, hf]; exact h)

/-- The greater of two numbers. -/
theorem wpList_max2 {P : Program} {ops : Array Oper} {rest : List Oper} {o : Oper} {a : Act} {w : World} {Q : Exit → Act → World → Prop} (hg : o.guard = none) (x y : Operand) (ts : Array TypeId) (ho : o.op = .call { callee := .builtin .max, args := #[x, y], argTypes := ts })
    (u v r : Int) (hx : a.eval x = .int .i64 u) (hy : a.eval y = .int .i64 v) (hr : (if v > u then v else u) = r)
    (h : wpList P ops Q rest (a.put o.dst (.int .i64 r)) w) : wpList P ops Q (o :: rest) a w := by
  refine wpList_plain hg fun K hK => ?_
  unfold Oper.wp execOp
  simp [ho, resolve, invoke, builtin, hx, hy, Builtin.max_, Builtin.max2]
  rw [hr]
  exact hK _ _ h

/-- A slice of a list, from a place on. -/
theorem wpList_from {ops : Array Oper} {rest : List Oper} {o : Oper} {a : Act} {w : World} {Q : Exit → Act → World → Prop} (hg : o.guard = none) (x lo : Operand) (ho : o.op = .slice 25 x (some lo) none none)
    (ao : Option Addr) (len cap k : Nat) (hx : a.eval x = .slice ao len cap) (hlo : a.eval lo = .int .i64 (k : Int)) (hk : k ≤ len)
    (h : wpList Try.prog ops Q rest (a.put o.dst (sliced ao k len cap 16)) w) : wpList Try.prog ops Q (o :: rest) a w := by
  have ht : Try.prog.underlying 25 = some (.slice (Try.prog.elem 25)) := by kernel_rfl
  refine wpList_plain hg fun K hK => ?_
  unfold Oper.wp execOp
  simp only [ho, Instr.sliceAt, Option.map_some, Option.map_none, hx, hlo, Sem.run_bind, run_underlying ht, Result.andThen_ok, run_fromC ao len cap k hk w, Sem.run_pure]
  exact hK _ _ h

/-- What NewTxns answers. -/
def NewA (n : Int) (l : List TxD) (w : World) (e : Ending) (w' : World) : Prop :=
  Below w.heap.size w w' ∧ ((∃ er : Int, e = .returned (.tuple #[.pointer none, .int .i64 er])) ∨ (∃ (m p : Nat) (css : List (List Value)), n = m ∧ m ≤ 64 ∧ rises 0 0 l = true ∧ e = .returned (.tuple #[.pointer (some ⟨p, 0, none⟩), .int .i64 0]) ∧ w.heap.size ≤ p ∧ IsTs w' p m css (lastN m l)))

set_option maxHeartbeats 2000000 in
theorem newTxns_any (n : Int) (v : Value) (l : List TxD) (w : World) (h : SeesTxs w v l) (hl : l.length ≤ 1000000) (hp : ∀ t ∈ l, t.rq.parts ≤ 20000) :
    Calls Try.prog 6 #[.int .i64 n, v] w (NewA n l w) := by
  by_cases hn : n < 0 ∨ 64 < n
  · have HN : Hid _ := newZ_no n w hn
    obtain ⟨ao, cap, rfl, hlc, hcm⟩ := txs_shape h
    clear hn h hp
    go_enter Try.func6, Try.ntmps6
    go_wp2_with fail
    go_at_call 17
    refine Calls.mono HN.out ?_
    rintro e w' ⟨rfl, rfl⟩
    go_wp2
    go_ret2
    exact ⟨Below.refl _ _, .inl ⟨1, rfl⟩⟩
  · obtain ⟨m, rfl⟩ : ∃ m : Nat, n = m := ⟨n.toNat, by omega⟩
    have hm : m ≤ 64 := by omega
    have HN : Hid _ := newZ_yes m w hm
    obtain ⟨ao, cap, rfl, hlc, hcm⟩ := txs_shape h
    have H : Hid (SeesTxs w (.slice ao l.length cap) l ∧ ∀ t ∈ l, t.rq.parts ≤ 20000) := ⟨h, hp⟩
    unfold maxLen at hcm
    clear h hp hn
    go_enter Try.func6, Try.ntmps6
    go_wp2_with fail
    go_at_call 17
    refine Calls.mono HN.out ?_
    rintro e w1 ⟨rfl, r1, b1⟩
    have HR : Hid _ := rises_any 0 0 (.slice ao l.length cap) l w1 (H.out.1.zs.below b1 (Nat.le_refl _))
    have H1 : Hid (IsRz 64 1027 w1 w.heap.size m [] ∧ Below w.heap.size w w1) := ⟨r1, b1⟩
    clear r1 b1 HN
    go_wp2_with fail
    go_at_call 18
    refine Calls.mono HR.out ?_
    rintro e w2 ⟨rfl, b2⟩
    have H2 : Hid (IsRz 64 1027 w2 w.heap.size m [] ∧ Below w.heap.size w w2) := ⟨H1.out.1.of_block (b2.block _ H1.out.1.lt), H1.out.2.trans (b2.mono H1.out.2.size)⟩
    clear b2 HR H1
    cases hri : rises 0 0 l
    · have HRI : Hid _ := hri
      clear hri
      go_wp2
      go_ret2
      exact ⟨H2.out.2, .inl ⟨100, rfl⟩⟩
    · have HRI : Hid _ := hri
      clear hri
      obtain ⟨_, first, f, hrow, hf⟩ := H2.out.1
      have hC := rowIs_range hrow (Nat.le_refl 1027)
      obtain ⟨C, hCe⟩ : ∃ C, C = (List.range 1027).map f := ⟨_, rfl⟩
      rw [← hCe] at hC
      have hCl : C.length = 1027 := by rw [hCe]; simp
      have q1 : (Try.prog.info? 64).map (·.size) = some C.length := by rw [hCl]; exact rgz_size
      obtain ⟨K, hK, hKs, hKi, hKm⟩ := builtT C.toArray (by rw [List.size_toArray, hCl])
      have hlw := hrow.lt
      have HK : Hid (IsTs (w2.alloc (.cells K 66)) w2.heap.size m [] [] ∧ Below w.heap.size w (w2.alloc (.cells K 66))) := by
        refine ⟨⟨⟨by omega, first, fun i => if i = 1027 then .bool true else f i, ⟨K, heap_alloc_new _ _, hKs, fun i hi => ?_⟩, ⟨hf.most, hf.few, hf.first_lt, hf.cm, hf.cf, hf.cc, fun i x hx => by simp at hx, fun i => ?_, rfl⟩⟩, rfl, fun i h1 => by simp at h1⟩, H2.out.2.alloc H2.out.2.size _⟩
        · dsimp only
          by_cases e : i = 1027
          · rw [if_pos e, e]; exact hKm
          · rw [if_neg e, hKi i (by omega), hCe, List.getElem?_toArray, List.getElem?_map, List.getElem?_range (by omega)]; rfl
        · by_cases e : i = 1027
          · rw [if_pos e]; rfl
          · rw [if_neg e]; exact hf.one i
      clear hrow hf hCe hCl hKi hKm
      go_upto_region 7 with (first
        | (refine wpList_load_mid rfl 64 _ rfl w.heap.size 0 rfl C _ hC Try.underlying64 rfl q1 ?_)
        | (refine wpList_built2 rfl 66 0 1 _ _ rfl _ _ rfl rfl K hK ?_))
      clear hK q1 hC
      obtain ⟨V, hV⟩ : ∃ V, V = w2.alloc (.cells K 66) := ⟨_, rfl⟩
      rw [← hV] at HK ⊢
      have hps : w2.heap.size < V.heap.size := by rw [hV]; simp
      obtain ⟨p, hpe⟩ : ∃ p, p = w2.heap.size := ⟨_, rfl⟩
      have hpw : w.heap.size ≤ p := by rw [hpe]; omega
      rw [← hpe] at HK hps ⊢
      clear hV hpe hlw H2 hKs
      obtain ⟨k0, hk0⟩ : ∃ k0 : Nat, k0 = l.length - m := ⟨_, rfl⟩
      have hmx : (if (l.length : Int) - (m : Int) > 0 then (l.length : Int) - (m : Int) else 0) = (k0 : Int) := by split <;> omega
      obtain ⟨l2, hl2⟩ : ∃ l2, l2 = l.drop k0 := ⟨_, rfl⟩
      have hl2n : l2.length = l.length - k0 := by rw [hl2, List.length_drop]
      obtain ⟨a2, c2, hv2⟩ : ∃ a2 c2, sliced ao k0 l.length cap 16 = .slice a2 l2.length c2 := by
        unfold sliced
        rw [hl2n]
        exact ⟨_, _, rfl⟩
      have HL : Hid (SeesTxs w (.slice a2 l2.length c2) l2 ∧ (∀ t ∈ l2, t.rq.parts ≤ 20000) ∧ l2 = lastN m l) := by
        refine ⟨?_, fun t ht => H.out.2 t (by rw [hl2] at ht; exact List.mem_of_mem_drop ht), by rw [hl2, hk0]; rfl⟩
        have := seesTxs_cut H.out.1 k0 l.length (by omega) (Nat.le_refl _)
        rw [List.take_length, ← hl2, hv2] at this
        exact this
      have hk0l : k0 ≤ l.length := by omega
      have hm2 : l2.length ≤ m := by omega
      have hl3 : l2.length ≤ 1000000 := by omega
      clear hk0 hl2n hl2
      go_wp2_with (first
        | (refine wpList_max2 rfl _ _ _ rfl 0 ((l.length : Int) - (m : Int)) (k0 : Int) rfl rfl hmx ?_)
        | (refine wpList_from rfl _ _ rfl ao l.length cap k0 rfl rfl hk0l ?_; rw [hv2]))
      clear hmx hv2 hk0l
      go_loopw [36] (fun i wr => ∃ (k : Nat) (css : List (List Value)), k ≤ l2.length ∧ i = .int .i64 k ∧ Hid (Below w.heap.size w wr ∧ IsTs wr p m css (l2.take k))) (fun i _ => l2.length - (intOf i).toNat)
      case atStart => exact ⟨0, [], Nat.zero_le _, rfl, HK.out.2, by simpa using HK.out.1⟩
      case round =>
        obtain ⟨k, css, hk, rfl, HB⟩ := hrel
        by_cases hlt : k < l2.length
        · obtain ⟨b, off, cap', cs, hv, hs, hc16, l0⟩ := txs_rowC (HL.out.1.below HB.out.1 (Nat.le_refl _)) k hlt
          simp at hv
          obtain ⟨rfl, rfl⟩ := hv
          obtain ⟨t, ht⟩ : ∃ t, t = l2[k] := ⟨_, rfl⟩
          rw [← ht] at hs
          have hf : TxForm cs := by obtain ⟨rc, rfl, hr⟩ := hs; exact tx_form hr
          have q16 : (Try.prog.info? 43).map (·.size) = some cs.length := by rw [hc16]; exact tx16
          have q16' : (Try.prog.info? 43).map (·.size) = some cs.toArray.size := by rw [List.size_toArray, hc16]; exact tx16
          obtain ⟨s1, r1, b1⟩ := rowZ wr 43 txZ.toArray cs.toArray
          have g1 : ((wr.alloc (.cells txZ.toArray 43)).setRow wr.heap.size cs.toArray).rangeAt wr.heap.size 0 cs := fun j v hv => by
            rw [Nat.zero_add, cell_of_row _ _ _ _ _ _ r1, List.getElem?_toArray]; exact hv
          have hsz : txZ.toArray.size = cs.toArray.size := by rw [List.size_toArray, List.size_toArray, hc16]; rfl
          have hs1 := hf.one
          have HX : Hid (SeesTx wr cs t ∧ t.rq.parts ≤ 20000 ∧ l2.take (k + 1) = l2.take k ++ [t]) := ⟨hs, by rw [ht]; exact HL.out.2.1 _ (List.getElem_mem hlt), by rw [ht]; exact List.take_succ_eq_append_getElem hlt⟩
          have HW : Hid (Below wr.heap.size wr ((wr.alloc (.cells txZ.toArray 43)).setRow wr.heap.size cs.toArray)) := b1
          have hws := lt_of_block r1
          clear hs ht hf r1 b1
          go_upto_region 10 with (first
            | (refine wpList_load_mid rfl 43 _ rfl b (off + k * 16) rfl cs _ l0 Try.underlying43 rfl q16 ?_)
            | (refine wpList_store_row rfl 43 _ _ rfl wr.heap.size cs.toArray rfl rfl 43 _ s1 q16' hsz hs1 ?_))
          obtain ⟨Wx, hWx⟩ : ∃ Wx, Wx = (wr.alloc (.cells txZ.toArray 43)).setRow wr.heap.size cs.toArray := ⟨_, rfl⟩
          rw [← hWx] at g1 HW hws ⊢
          clear hWx s1 q16' hsz hs1 l0
          refine wp_region_held_drew (S := (fun W => W.rangeAt wr.heap.size 0 cs)) (by kernel_rfl) ?_ (fun hHeld => ?_)
          · exact g1
          refine wpAnyH_take (i := 0) (oi := { dst := some 40, op := Op.move (Operand.tmp 8), type := 28, pos := "cache.go:26", after := #[], guard := none }) (v := ?_) rfl (by kernel_rfl) (by kernel_rfl) (by kernel_rfl) (fun _ _ _ h => h) (Or.inl ⟨by rfl, ?_⟩) (by assumption) ?_
          rotate_left
          · (intro w hSw; (try dsimp only at hSw); go_simp) <;> with_reducible rfl
          try simp only [Act.put, List.setIfInBounds_toArray, List.set_cons_zero, List.set_cons_succ]
          refine wpAnyH_take (i := 1) (oi := { dst := some 41, op := Op.nilCheck (Operand.tmp 40), type := 0, pos := "cache.go:26", after := #[{ on := 0, ground := Ground.data }], guard := none }) (v := ?_) rfl (by kernel_rfl) (by kernel_rfl) (by kernel_rfl) (fun _ _ _ h => h) (Or.inl ⟨by rfl, ?_⟩) (by assumption) ?_
          rotate_left
          · (intro w hSw; (try dsimp only at hSw); go_simp) <;> with_reducible rfl
          try simp only [Act.put, List.setIfInBounds_toArray, List.set_cons_zero, List.set_cons_succ]
          refine wpAnyH_take (i := 2) (oi := { dst := some 42, op := Op.fieldAddr 66 (Operand.tmp 41) 0, type := 0, pos := "cache.go:26", after := #[{ on := 1, ground := Ground.data }], guard := none }) (v := ?_) rfl (by kernel_rfl) (by kernel_rfl) (by kernel_rfl) (fun _ _ _ h => h) (Or.inl ⟨by rfl, ?_⟩) (by assumption) ?_
          rotate_left
          · (intro w hSw; (try dsimp only at hSw); go_simp) <;> with_reducible rfl
          try simp only [Act.put, List.setIfInBounds_toArray, List.set_cons_zero, List.set_cons_succ]
          refine wpAnyH_take (i := 3) (oi := { dst := some 43, op := Op.load 43 (Operand.tmp 10), type := 43, pos := "cache.go:26", after := #[], guard := none }) (v := .agg cs.toArray) rfl (by kernel_rfl) (by kernel_rfl) (by kernel_rfl) (fun _ _ _ h => h) (yieldsIf_load_mid rfl 43 _ rfl wr.heap.size 0 rfl cs _ (fun _ h => h) Try.underlying43 rfl q16) (by assumption) ?_
          try simp only [Act.put, List.setIfInBounds_toArray, List.set_cons_zero, List.set_cons_succ]
          refine wpAnyH_ready (rs := [4]) (by kernel_rfl) (by simp) ?_
          refine AllReadyH.cons (o := { dst := some 44, op := Op.call { callee := Callee.value (Operand.func 20), args := #[Operand.tmp 43], argTypes := #[43] }, type := 43, pos := "cache.go:26", after := #[{ on := 3, ground := Ground.data }], guard := none }) rfl (fun K hK => ?_) AllReadyH.nil
          go_simp
          refine (clone_any cs t _ (HX.out.1.below (below_drewN HW.out 1) (Nat.le_refl _)) HX.out.2.1).mono ?_
          rintro _ w2 ⟨ds, rfl, hr2, b2⟩
          have b3 : Below Wx.heap.size Wx w2 := (below_drewN (Below.refl _ _) 1).trans b2
          have hpl : p < Wx.heap.size := Nat.lt_of_lt_of_le HB.out.2.rg.lt HW.out.size
          have HY : Hid (RqIn w2 (fun q => q ≠ p ∧ q < w2.heap.size) ds t.rq ∧ Below wr.heap.size wr w2) := ⟨RqIn.kept (F := fun q => Wx.heap.size ≤ q ∧ q < w2.heap.size) (Kept.refl w2 (fun _ => False)) (fun q hq => ⟨fun e => e, by omega, hq.2⟩) hr2, HW.out.trans (b3.mono HW.out.size)⟩
          have g2 : w2.rangeAt wr.heap.size 0 cs := fun j v hj => cell_later (g1 j v hj) b3 (Nat.le_refl _)
          have hyz := b3.size
          clear hr2 b2 b3 hpl
          refine hK.out _ _ g2 (fun hHeld => ?_)
          clear hK K
          refine wpAnyH_ready (rs := [5]) (by kernel_rfl) (by simp) ?_
          refine AllReadyH.cons (o := { dst := some 45, op := Op.call { callee := Callee.value (Operand.func 19), args := #[Operand.tmp 42, Operand.tmp 44], argTypes := #[64, 43] }, type := 0, pos := "cache.go:26", after := #[{ on := 2, ground := Ground.data }, { on := 4, ground := Ground.data }, { on := 4, ground := Ground.chain }], guard := none }) rfl (fun K hK => ?_) AllReadyH.nil
          go_simp
          refine (putZ_form (IsTs.below HB.out.2 HY.out.2).rg (txHead t ++ ds) (tx_form HY.out.1.sees)).mono ?_
          rintro _ w3 ⟨rfl, hz3, hk3⟩
          have hpl : p < wr.heap.size := HB.out.2.rg.lt
          have hb2 : Below w.heap.size w w2 := HB.out.1.trans (HY.out.2.mono HB.out.1.size)
          have H3 : Hid (Below w.heap.size w w3 ∧ IsTs w3 p m (css ++ [txHead t ++ ds]) (l2.take (k + 1))) := ⟨hb2.trans (hk3.below hb2.size (fun q e => by omega)), by rw [HX.out.2.2]; exact IsTs.put (IsTs.below HB.out.2 HY.out.2) (by rw [List.length_take]; omega) HY.out.1 hz3 hk3⟩
          have g3 : w3.rangeAt wr.heap.size 0 cs := fun j v hj => (World.cell?_of_block (hk3.block wr.heap.size (Nat.lt_of_lt_of_le hws hyz) (by omega))).trans (g2 j v hj)
          clear hz3 hk3 hpl hb2
          refine hK.out _ _ g3 (fun hHeld => ?_)
          clear hK K
          refine wpAnyH_done (by kernel_rfl) ?_ _
          skip
          clear hHeld g1 g2 g3 HB HY HW
          go_wp2_with fail
          go_roundw
          case rel => exact ⟨k + 1, _, by omega, by go_num, H3⟩
          case measure => simp [intOf]; omega
        · obtain rfl : k = l2.length := by omega
          rw [List.take_length] at HB
          go_wp2_with fail
          go_ret2
          exact ⟨HB.out.1, .inr ⟨m, p, css, rfl, hm, HRI.out, rfl, hpw, by rw [← HL.out.2.2]; exact HB.out.2⟩⟩
end Go.Proofs.Yteindmdggpahfaa
