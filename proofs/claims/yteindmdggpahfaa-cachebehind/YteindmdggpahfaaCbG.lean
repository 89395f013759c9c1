/- All of a ring of transactions: what is taken, and the iterator over it. -/
import Derived.Test.YteindmdggpahfaaCbF
import Derived.Test.YteindmdggpahfaaCbZ
import Derived.Test.YteindmdggpahfaaRangeR
import Derived.Laws.Rows
import Derived.Laws.Tables
import Derived.Deep.MidRow
namespace Go.Proofs.Yteindmdggpahfaa
open Go.RowKit Go.Shelf
set_option maxRecDepth 8000
attribute [local go_sem] Oper.semAt_some

/-- A load of a struct or a row inside a fence, wherever it lies. -/
theorem inLoad_mid {F : Fence} {n : Nat} {P : Program} {w : World} {ops : Array Oper} {rest : List Oper} {o : Oper} {a : Act} {Q : Exit → Act → World → Prop}
    (hg : o.guard = none) (ty : TypeId) (x : Operand) (ho : o.op = .load ty x) (b off : Nat) (hx : a.eval x = .pointer (some ⟨b, off, none⟩)) (cs : List Value) (d : TypeDesc) (hc : w.rangeAt b off cs)
    (hu : P.underlying ty = some d) (hd : d.isRow = true) (hi : (P.info? ty).map (·.size) = some cs.length)
    (h : wpListIn F n P ops Q rest (a.put o.dst (.agg cs.toArray)) w) : wpListIn F n P ops Q (o :: rest) a w := by
  refine wpListIn_plain hg fun K hK' => ?_
  unfold Oper.wpIn
  refine ⟨?_, ?_⟩
  · simp [Oper.about, ho]
  · rw [Oper.semAt_plain F _ _ (by rw [ho]; intro c hc'; cases hc')]
    unfold execOp
    simp only [ho, hx, Instr.loadAt, Instr.sureAddr, Sem.run_bind, Sem.run_pure, Result.andThen_ok, run_loadVar_mid w b off ty cs d hc hu hd hi]
    exact hK' _ _ h

/-- A store of a struct or a row into its own block inside a fence. -/
theorem inStore_row {F : Fence} {n : Nat} {P : Program} {w : World} {ops : Array Oper} {rest : List Oper} {o : Oper} {a : Act} {Q : Exit → Act → World → Prop}
    (hg : o.guard = none) (ty : TypeId) (x y : Operand) (ho : o.op = .store ty x y) (g : Nat) (cells : Array Value) (hx : a.eval x = .pointer (some ⟨g, 0, none⟩)) (hy : a.eval y = .agg cells)
    (t : TypeId) (old : Array Value) (hgr : w.heap[g]? = some (.cells old t (0, 0))) (hi : (P.info? ty).map (·.size) = some cells.size)
    (hold : old.size = cells.size) (h1 : cells.all (·.oneCell') = true)
    (h : wpListIn F n P ops Q rest (a.put o.dst undef) (w.setRow g cells)) : wpListIn F n P ops Q (o :: rest) a w := by
  refine wpListIn_plain hg fun K hK' => ?_
  unfold Oper.wpIn
  refine ⟨?_, ?_⟩
  · simp [Oper.about, ho]
  · rw [Oper.semAt_plain F _ _ (by rw [ho]; intro c hc'; cases hc')]
    unfold execOp
    simp only [ho, hx, hy, Instr.storeAt, Instr.sureAddr, Sem.run_bind, Sem.run_pure, Result.andThen_ok, run_storeVar_row w g t ty old cells hgr hi hold h1]
    exact hK' _ _ h

theorem rgz_size : (Try.prog.info? 64).map (·.size) = some 1027 := by kernel_rfl

theorem rowZ (W : World) (t : TypeId) (Z C : Array Value) : (W.alloc (.cells Z t)).heap[W.heap.size]? = some (.cells Z t (0, 0)) ∧ ((W.alloc (.cells Z t)).setRow W.heap.size C).heap[W.heap.size]? = some (.cells C t (0, 0)) ∧ Below W.heap.size W ((W.alloc (.cells Z t)).setRow W.heap.size C) := by
  have s1 : (W.alloc (.cells Z t)).heap[W.heap.size]? = some (.cells Z t (0, 0)) := heap_alloc_new _ _
  have k2 : Kept (W.alloc (.cells Z t)) ((W.alloc (.cells Z t)).setRow W.heap.size C) (fun k => k = W.heap.size) := ⟨rfl, rfl, rfl, by simp, fun k _ hn => setRow_other _ _ _ _ hn⟩
  exact ⟨s1, setRow_heap (W.alloc (.cells Z t)) W.heap.size _ C _ _ s1, ((Below.refl _ _).alloc (Nat.le_refl _) _).trans (k2.below (by simp) (fun k e => by omega))⟩

/-- The first cells of a row, as a list. -/
theorem rowIs_range {w : World} {p N n : Nat} {T : TypeId} {f : Nat → Value} (h : w.rowIs p T N f) (hn : n ≤ N) : w.rangeAt p 0 ((List.range n).map f) := by
  intro j v hv
  rw [List.getElem?_map] at hv
  by_cases hj : j < n
  · rw [List.getElem?_range hj] at hv
    simp at hv
    rw [Nat.zero_add, ← hv]
    exact h.cell (by omega)
  · rw [List.getElem?_eq_none (by simpa using hj)] at hv
    cases hv

theorem rowIs_new {W : World} {p n : Nat} {T : TypeId} {f : Nat → Value} (h : W.heap[p]? = some (.cells ((List.range n).map f).toArray T (0, 0))) : W.rowIs p T n f :=
  ⟨_, h, by simp, fun i hi => by simp [hi]⟩

set_option maxHeartbeats 1000000 in
theorem allZ_any {T : TypeId} {N : Nat} {w : World} {p m : Nat} {xs : List (List Value)} (h : IsRz T N w p m xs) :
    Calls Try.prog 24 #[.pointer (some ⟨p, 0, none⟩)] w fun e w' => e = .returned (.func (.func 31) #[] #[.pointer (some ⟨w.heap.size, 0, none⟩)]) ∧ IsRz 64 1027 w' w.heap.size m xs ∧ Below w.heap.size w w' := by
  have hmf : ∀ (fn : Fn) (first cap : Array Value) (w : World), (Instr.makeFunc fn first cap).run Try.prog w = .ok (.func fn first cap) w := fun _ _ _ _ => rfl
  obtain ⟨hN, first, f, hr, hf⟩ := h
  have hl := hr.lt
  obtain ⟨Z, hZ, hz, _, _, _⟩ := zeroZ
  obtain ⟨C, hC⟩ : ∃ C, C = (List.range 1027).map f := ⟨_, rfl⟩
  obtain ⟨s1, r1, b1⟩ := rowZ w 64 Z C.toArray
  have hCl : C.length = 1027 := by rw [hC]; simp
  have hone : C.toArray.all (·.oneCell') = true := by
    rw [Array.all_eq_true_iff_forall_mem]
    intro v hv
    rw [hC] at hv
    simp at hv
    obtain ⟨i, _, rfl⟩ := hv
    exact hf.one i
  have HZ : Hid (IsRz 64 1027 ((w.alloc (.cells Z 64)).setRow w.heap.size C.toArray) w.heap.size m xs ∧ Below w.heap.size w ((w.alloc (.cells Z 64)).setRow w.heap.size C.toArray)) := ⟨⟨Nat.le_refl _, first, f, rowIs_new (by rw [← hC]; exact r1), hf⟩, b1⟩
  have hC2 : (w.alloc (.cells Z 64)).rangeAt p 0 C := by
    rw [hC]
    exact rowIs_range (hr.of_block (Below.heap_alloc _ _ _ hl)) hN
  have q1 : (Try.prog.info? 64).map (·.size) = some C.length := by rw [hCl]; exact rgz_size
  have q2 : (Try.prog.info? 64).map (·.size) = some C.toArray.size := by rw [List.size_toArray, hCl]; exact rgz_size
  have hsz : Z.size = C.toArray.size := by rw [hZ, List.size_toArray, hCl]
  clear r1 b1 hr hf hZ hC hCl
  go_enter Try.func24, Try.ntmps24
  go_wp2_with (first
    | (refine wpList_load_mid rfl 64 _ rfl p 0 rfl C _ hC2 Try.underlying64 rfl q1 ?_)
    | (refine wpList_store_row rfl 64 _ _ rfl w.heap.size C.toArray rfl rfl 64 _ s1 q2 hsz hone ?_))
  all_goals (go_ret; exact ⟨rfl, HZ.out⟩)

/-- The cells of a transaction. -/
def TxForm (x : List Value) : Prop := ∃ (t0 t1 t2 t3 t4 : Int) (x0 : Int) (x1 : ByteArray) (x2 : Option Addr) (x3 x4 : Nat) (x5 : Option Addr) (x6 x7 : Nat) (x8 : Int) (x9 x10 : Bool) (x11 x12 : Int) (x13 : Option Addr) (x14 x15 : Nat) (x16 : Option Addr) (x17 x18 : Nat), x = [.int .u32 t0, .int .u32 t1, .int .i8 t2, .int .u32 t3, .int .i64 t4, .int .i8 x0, .string x1, .slice x2 x3 x4, .slice x5 x6 x7, .int .i32 x8, .bool x9, .bool x10, .int .i64 x11, .int .i32 x12, .slice x13 x14 x15, .slice x16 x17 x18]

theorem TxForm.len {x : List Value} (h : TxForm x) : x.length = 16 := by
  obtain ⟨_, _, _, _, _, _, _, _, _, _, _, _, _, _, _, _, _, _, _, _, _, _, _, _, rfl⟩ := h
  rfl

theorem TxForm.one {x : List Value} (h : TxForm x) : x.toArray.all (·.oneCell') = true := by
  obtain ⟨_, _, _, _, _, _, _, _, _, _, _, _, _, _, _, _, _, _, _, _, _, _, _, _, rfl⟩ := h
  simp [Value.oneCell']

theorem atZ_form {T : TypeId} {N : Nat} {w0 : World} {p m : Nat} {xs : List (List Value)} (h0 : IsRz T N w0 p m xs) (i : Nat) (x : List Value) (hx : TxForm x) (hi : xs[i]? = some x) :
    Calls Try.prog 32 #[.pointer (some ⟨p, 0, none⟩), .int .i64 i] w0 fun e w' => e = .returned (.tuple #[.agg x.toArray, .bool true]) ∧ Below w0.heap.size w0 w' := by
  obtain ⟨_, _, _, _, _, _, _, _, _, _, _, _, _, _, _, _, _, _, _, _, _, _, _, _, rfl⟩ := hx
  exact atZ_yes h0 i _ _ _ _ _ _ _ _ _ _ _ _ _ _ _ _ _ _ _ _ _ _ _ _ hi

theorem putZ_form {T : TypeId} {N : Nat} {w : World} {p m : Nat} {xs : List (List Value)} (h : IsRz T N w p m xs) (x : List Value) (hx : TxForm x) :
    Calls Try.prog 19 #[.pointer (some ⟨p, 0, none⟩), .agg x.toArray] w fun e w' => e = .returned (.tuple #[]) ∧ IsRz T N w' p m (lastN m (xs ++ [x])) ∧ Kept w w' (· = p) := by
  obtain ⟨_, _, _, _, _, _, _, _, _, _, _, _, _, _, _, _, _, _, _, _, _, _, _, _, rfl⟩ := hx
  exact putZ_any h _ _ _ _ _ _ _ _ _ _ _ _ _ _ _ _ _ _ _ _ _ _ _ _

/-- A thing of the iterator: its place; the transaction at it. -/
abbrev allEncZ (xs : List (List Value)) (i : Nat) : Array Value := #[.int .i64 i, .agg (xs.getD i []).toArray]

theorem tx16 : (Try.prog.info? 43).map (·.size) = some 16 := by kernel_rfl

set_option maxHeartbeats 1000000 in
theorem all1Z_seq (c0 m : Nat) (xs : List (List Value)) (w : World) (hc : IsRz 64 1027 w c0 m xs) (hxs : ∀ x ∈ xs, TxForm x) :
    SeqR Try.prog 31 #[.pointer (some ⟨c0, 0, none⟩)] (allEncZ xs) (fun pre x _ _ => x = pre.length ∧ x < xs.length) (fun l => l.length = xs.length) (fun l => l.length ≤ xs.length) (fun k => k = c0) w := by
  intro l J Jx W hD0 hsz hJ hJx hY h0
  have hnil : ∀ (w : World), (binOp BinOp.eql 79 (.func (.yield l) #[] #[]) .nilFunc).run Try.prog w = .ok (.bool false) w := fun _ => by kernel_rfl
  have hcW : IsRz 64 1027 W c0 m xs := hc.of_block (hD0 c0 rfl)
  have hlen : xs.length ≤ 64 := by
    obtain ⟨_, _, _, _, hf⟩ := hc
    have h1 := hf.few
    have h2 := hf.most
    omega
  have hcell : W.cell? ⟨c0, 1026, none⟩ = some (.int .i64 xs.length) := by
    obtain ⟨_, _, f, hr, hf⟩ := hcW
    rw [hr.cell (by omega), hf.cc]
  refine (callsIn_wide (n := 0)).1 ?_
  refine callsIn_of_wp Try.func31 rfl trivial ?_ rfl
  simp only [Try.ntmps31, List.size_toArray, List.length_cons, List.length_nil, Nat.reduceAdd, Nat.reduceSub, Array.replicate_succ, Array.replicate_zero, List.push_toArray, List.append_toArray, List.nil_append, List.cons_append]
  have HA : Hid (IsRz 64 1027 W c0 m xs ∧ Stays (fun k => k = c0) J) := ⟨hcW, hJ⟩
  have HY : Hid _ := hY
  have HX : Hid (∀ x ∈ xs, TxForm x) := hxs
  have hlW : c0 < W.heap.size := hcW.lt
  clear hc hcW hJ hJx hY hxs
  gi_wp2
  gi_loopw [10] (fun v wr => ∃ (i : Nat) (pre : List Nat), v = .int .i64 (i : Int) ∧ i ≤ xs.length ∧ pre.length = i ∧ Hid (J (fun k => k = c0) pre wr) ∧ Hid (IsRz 64 1027 wr c0 m xs)) (fun v _ => xs.length - (intOf v).toNat)
  case atStart => exact ⟨0, [], rfl, Nat.zero_le _, rfl, h0, HA.out.1⟩
  case round =>
    obtain ⟨i, pre, rfl, hi, hpl, HJ, HC⟩ := hrel
    have HPL : Hid (pre.length = i) := hpl
    clear hpl
    by_cases hlt : i < xs.length
    · obtain ⟨x, hx⟩ : ∃ x, x = xs.getD i [] := ⟨_, rfl⟩
      have hxi : xs[i]? = some x := by rw [hx, List.getD_eq_getElem?_getD, List.getElem?_eq_getElem hlt]; rfl
      have hfx : TxForm x := HX.out x (List.mem_of_getElem? hxi)
      have HAt : Hid _ := atZ_form HC.out i x hfx hxi
      have q1 : (Try.prog.info? 43).map (·.size) = some x.length := by rw [hfx.len]; exact tx16
      have q2 : (Try.prog.info? 43).map (·.size) = some x.toArray.size := by rw [List.size_toArray, hfx.len]; exact tx16
      have hsz : (txZ.toArray).size = x.toArray.size := by rw [List.size_toArray, List.size_toArray, hfx.len]; rfl
      have hone := hfx.one
      have HXX : Hid _ := hx
      clear hfx hx hxi
      gi_wp2_with fail
      refine ⟨trivial, rfl, (callsIn_wide.2 HAt.out).mono ?_⟩
      rintro e w1 ⟨rfl, b1⟩
      obtain ⟨s1, r1, b2⟩ := rowZ w1 43 txZ.toArray x.toArray
      have g1 : ((w1.alloc (.cells txZ.toArray 43)).setRow w1.heap.size x.toArray).rangeAt w1.heap.size 0 x := fun j v hv => by
        rw [Nat.zero_add, cell_of_row _ _ _ _ _ _ r1, List.getElem?_toArray]; exact hv
      have b3 : Below wr.heap.size wr ((w1.alloc (.cells txZ.toArray 43)).setRow w1.heap.size x.toArray) := b1.trans (b2.mono b1.size)
      have g0 : w1.heap.size < ((w1.alloc (.cells txZ.toArray 43)).setRow w1.heap.size x.toArray).heap.size := lt_of_block r1
      obtain ⟨fn, tmps, assign, body, hy, hRd⟩ := HY.out _ pre i wr ((w1.alloc (.cells txZ.toArray 43)).setRow w1.heap.size x.toArray) (fun _ h => h) HJ.out ((Below.kept b3).mono (fun k h1 h2 => by omega)) ⟨HPL.out.symm, hlt⟩
      rw [show allEncZ xs i = #[.int .i64 (i : Int), .agg x.toArray] from by rw [HXX.out]] at hy
      have HC2 : Hid (IsRz 64 1027 ((w1.alloc (.cells txZ.toArray 43)).setRow w1.heap.size x.toArray) c0 m xs) := IsRz.kept HC.out (Below.kept b3) (by have := HC.out.lt; omega)
      have HRd : Hid _ := hRd
      clear hRd HAt HC b1 b2 b3 r1
      gi_wp2_with (first
        | (refine inStore_row rfl 43 _ _ rfl w1.heap.size x.toArray rfl rfl 43 _ s1 q2 hsz hone ?_)
        | (refine inLoad_mid rfl 43 _ rfl w1.heap.size 0 rfl x _ g1 Try.underlying43 rfl q1 ?_))
      refine ⟨rfl, RoundIn.mono HRd.out ?_⟩
      clear hy
      rintro e W3 ⟨hk3, (⟨rfl, hJ3⟩ | ⟨rfl, hJx3⟩)⟩
      · have HR3 : Hid (IsRz 64 1027 W3 c0 m xs ∧ J (fun k => k = c0) (pre ++ [i]) W3) := ⟨IsRz.kept HC2.out hk3 (fun h => h rfl), hJ3⟩
        clear hk3 hJ3 HC2
        gi_wp2
        go_roundw
        case rel => exact ⟨i + 1, pre ++ [i], by go_num, by omega, by rw [List.length_append, HPL.out]; rfl, HR3.out.2, HR3.out.1⟩
        case measure => simp [intOf]; omega
      · have HR3 : Hid (Jx (fun k => k = c0) (pre ++ [i]) W3) := hJx3
        clear hk3 hJx3
        gi_wp2
        refine bodyPost_ret (results_none rfl _ _ _) rfl ?_
        exact ⟨⟨_, rfl⟩, _, .inr ⟨pre ++ [i], by rw [List.length_append, HPL.out]; simp; omega, HR3.out⟩⟩
    · gi_wp2
      refine bodyPost_end (results_none rfl _ _ _) rfl ?_
      exact ⟨⟨_, rfl⟩, _, .inl ⟨pre, by rw [HPL.out]; omega, HJ.out⟩⟩

end Go.Proofs.Yteindmdggpahfaa
