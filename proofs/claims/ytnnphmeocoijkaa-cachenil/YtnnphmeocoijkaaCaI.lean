/- All of a ring of numbers: what is taken, and the iterator over it. -/
import Derived.Test.YtnnphmeocoijkaaCaA
import Derived.Test.YtnnphmeocoijkaaRangeR
import Derived.Laws.Rows
import Derived.Laws.Tables
import Derived.Deep.MidRow
namespace Go.Proofs.Ytnnphmeocoijkaa
open Go.RowKit Go.Shelf
set_option maxRecDepth 8000
attribute [local go_sem] Oper.semAt_some

theorem rg_size : (Try.prog.info? 42).map (·.size) = some 67 := by kernel_rfl

theorem row1 (W : World) (t : TypeId) (Z C : Array Value) : (W.alloc (.cells Z t)).heap[W.heap.size]? = some (.cells Z t (0, 0)) ∧ ((W.alloc (.cells Z t)).setRow W.heap.size C).heap[W.heap.size]? = some (.cells C t (0, 0)) ∧ Below W.heap.size W ((W.alloc (.cells Z t)).setRow W.heap.size C) := by
  have s1 : (W.alloc (.cells Z t)).heap[W.heap.size]? = some (.cells Z t (0, 0)) := heap_alloc_new _ _
  have k2 : Kept (W.alloc (.cells Z t)) ((W.alloc (.cells Z t)).setRow W.heap.size C) (fun k => k = W.heap.size) := ⟨rfl, rfl, rfl, by simp, fun k _ hn => setRow_other _ _ _ _ hn⟩
  exact ⟨s1, setRow_heap (W.alloc (.cells Z t)) W.heap.size _ C _ _ s1, ((Below.refl _ _).alloc (Nat.le_refl _) _).trans (k2.below (by simp) (fun k e => by omega))⟩

set_option maxHeartbeats 1000000 in
theorem allI_any {w : World} {p m : Nat} {xs : List Value} (h : IsRg 42 w p m xs) :
    Calls Try.prog 14 #[.pointer (some ⟨p, 0, none⟩)] w fun e w' => e = .returned (.func (.func 23) #[] #[.pointer (some ⟨w.heap.size, 0, none⟩)]) ∧ IsRg 42 w' w.heap.size m xs ∧ Below w.heap.size w w' := by
  have hmf : ∀ (fn : Fn) (first cap : Array Value) (w : World), (Instr.makeFunc fn first cap).run Try.prog w = .ok (.func fn first cap) w := fun _ _ _ _ => rfl
  obtain ⟨first, f, ⟨C, hC, hCs, hCc⟩, hf⟩ := h
  have hl := lt_of_block hC
  obtain ⟨Z, hZ, hz, _⟩ := zeroI
  obtain ⟨s1, r1, b1⟩ := row1 w 42 Z C
  have hone : C.all (·.oneCell') = true := by
    rw [Array.all_eq_true_iff_forall_mem]
    intro v hv
    obtain ⟨i, hi, rfl⟩ := Array.getElem_of_mem hv
    have := hCc i (by omega)
    rw [Array.getElem?_eq_getElem hi] at this
    rw [Option.some.inj this]
    exact hf.one i
  have HZ : Hid (IsRg 42 ((w.alloc (.cells Z 42)).setRow w.heap.size C) w.heap.size m xs ∧ Below w.heap.size w ((w.alloc (.cells Z 42)).setRow w.heap.size C)) := ⟨⟨first, f, ⟨C, r1, hCs, hCc⟩, hf⟩, b1⟩
  have hC2 : (w.alloc (.cells Z 42)).heap[p]? = some (.cells C 42 (0, 0)) := (Below.heap_alloc _ _ _ hl).trans hC
  have q67 : (Try.prog.info? 42).map (·.size) = some C.size := by rw [hCs]; exact rg_size
  have hsz : Z.size = C.size := by rw [hCs, hZ]
  clear r1 b1 hC hCc hf hZ
  go_enter Try.func14, Try.ntmps14
  go_wp2_with (first
    | (refine wpList_load_row rfl 42 _ rfl p rfl 42 _ (0, 0) _ hC2 Try.underlying42 rfl q67 ?_)
    | (refine wpList_store_row rfl 42 _ _ rfl w.heap.size C rfl rfl 42 _ s1 q67 hsz hone ?_))
  all_goals (go_ret; exact ⟨rfl, HZ.out⟩)

/-- A thing of the iterator: its place; the number at it. -/
abbrev allEnc (ys : List Int) (i : Nat) : Array Value := #[.int .i64 i, .int .i64 (ys.getD i 0)]

set_option maxHeartbeats 1000000 in
theorem all1_seq (c0 m : Nat) (ys : List Int) (w : World) (hc : IsRg 42 w c0 m (ys.map (Value.int .i64))) :
    SeqR Try.prog 23 #[.pointer (some ⟨c0, 0, none⟩)] (allEnc ys) (fun pre x _ _ => x = pre.length ∧ x < ys.length) (fun l => l.length = ys.length) (fun l => l.length ≤ ys.length) (fun k => k = c0) w := by
  intro l J Jx W hD0 hsz hJ hJx hY h0
  have hnil : ∀ (w : World), (binOp BinOp.eql 72 (.func (.yield l) #[] #[]) .nilFunc).run Try.prog w = .ok (.bool false) w := fun _ => by kernel_rfl
  have hcW : IsRg 42 W c0 m (ys.map (Value.int .i64)) := hc.of_block (hD0 c0 rfl)
  have hlen : ys.length ≤ 64 := by
    obtain ⟨_, _, _, hf⟩ := hc
    have h1 := hf.few
    have h2 := hf.most
    simp at h1
    omega
  have hcell : W.cell? ⟨c0, 66, none⟩ = some (.int .i64 ys.length) := by
    obtain ⟨_, f, hr, hf⟩ := hcW
    rw [hr.cell (by omega), hf.cc, List.length_map]
  refine (callsIn_wide (n := 0)).1 ?_
  refine callsIn_of_wp Try.func23 rfl trivial ?_ rfl
  simp only [Try.ntmps23, List.size_toArray, List.length_cons, List.length_nil, Nat.reduceAdd, Nat.reduceSub, Array.replicate_succ, Array.replicate_zero, List.push_toArray, List.append_toArray, List.nil_append, List.cons_append]
  have HA : Hid (IsRg 42 W c0 m (ys.map (Value.int .i64)) ∧ Stays (fun k => k = c0) J) := ⟨hcW, hJ⟩
  have HY : Hid _ := hY
  have hlW : c0 < W.heap.size := hcW.lt
  clear hc hcW hJ hJx hY
  gi_wp2
  gi_loopw [10] (fun v wr => ∃ (i : Nat) (pre : List Nat), v = .int .i64 (i : Int) ∧ i ≤ ys.length ∧ pre.length = i ∧ Hid (J (fun k => k = c0) pre wr) ∧ Hid (IsRg 42 wr c0 m (ys.map (Value.int .i64)))) (fun v _ => ys.length - (intOf v).toNat)
  case atStart => exact ⟨0, [], rfl, Nat.zero_le _, rfl, h0, HA.out.1⟩
  case round =>
    obtain ⟨i, pre, rfl, hi, hpl, HJ, HC⟩ := hrel
    have HPL : Hid (pre.length = i) := hpl
    clear hpl
    by_cases hlt : i < ys.length
    · have hat := atI_yes HC.out i (ys.getD i 0) (by simp [List.getD_eq_getElem?_getD, hlt])
      have HAt : Hid _ := hat
      clear hat
      gi_wp2_with fail
      refine ⟨trivial, rfl, (callsIn_wide.2 HAt.out).mono ?_⟩
      rintro e w1 ⟨rfl, n, rfl⟩
      obtain ⟨fn, tmps, assign, body, hy, hRd⟩ := HY.out _ pre i wr (wr.drewN n) (fun _ h => h) HJ.out ((Kept.refl _ _).drewN n) ⟨HPL.out.symm, hlt⟩
      have hy2 : (Instr.yield l #[.int .i64 (i : Int), .int .i64 (ys.getD i 0)]).run Try.prog (wr.drewN n) = .ok (.round l fn tmps assign body) (wr.drewN n) := hy
      have HRd : Hid _ := hRd
      have HC2 : Hid (IsRg 42 (wr.drewN n) c0 m (ys.map (Value.int .i64))) := HC.out
      clear hy hRd HAt HC
      generalize ys.getD i 0 = x at *
      gi_wp2_with fail
      refine ⟨rfl, RoundIn.mono HRd.out ?_⟩
      clear hy2
      rintro e W3 ⟨hk3, (⟨rfl, hJ3⟩ | ⟨rfl, hJx3⟩)⟩
      · have HR3 : Hid (IsRg 42 W3 c0 m (ys.map (Value.int .i64)) ∧ J (fun k => k = c0) (pre ++ [i]) W3) := ⟨IsRg.kept HC2.out hk3 (fun h => h rfl), hJ3⟩
        clear hk3 hJ3 HC2
        gi_wp2
        go_roundw
        case rel => exact ⟨i + 1, pre ++ [i], by go_num, by omega, by rw [List.length_append, HPL.out]; rfl, HR3.out.2, HR3.out.1⟩
        case measure => simp [intOf]; omega
      · have HR3 : Hid (Jx (fun k => k = c0) (pre ++ [i]) W3) := hJx3
        clear hk3 hJx3
        gi_wp2
        refine bodyPost_ret (results_none rfl _ _ _) rfl ?_
        exact ⟨⟨_, rfl⟩, _, .inr ⟨pre ++ [i], by rw [List.length_append, HPL.out]; simp; omega, HR3.out⟩⟩
    · gi_wp2
      refine bodyPost_end (results_none rfl _ _ _) rfl ?_
      exact ⟨⟨_, rfl⟩, _, .inl ⟨pre, by rw [HPL.out]; omega, HJ.out⟩⟩

end Go.Proofs.Ytnnphmeocoijkaa
