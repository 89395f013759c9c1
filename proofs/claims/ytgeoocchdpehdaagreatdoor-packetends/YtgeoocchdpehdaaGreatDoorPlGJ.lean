import Derived.Test.YtgeoocchdpehdaaGreatDoorPkRJ
import Derived.Recover
import Derived.Defers
namespace Go.Proofs.YtgeoocchdpehdaaGreatDoor
open Go.RowKit
set_option maxRecDepth 8000

set_option maxHeartbeats 8000000 in
theorem parsed_sum (s : Int) (ys : List Int) (hpb : Byts (be4 s ++ ys)) (hys : ys ≠ []) (hl : ys.length ≤ 8188) (hne : s ≠ adler ys) (b : Value) (w : World) (hs : Sees w b (be4 s ++ ys)) (hn : Nam w) (hp : PNam w) :
    Calls Tryz.prog 27 #[b] w fun r w' => r = .panicked [{ v := .iface 102 (.agg #[]), recovered := false }] ∧ Below w.heap.size w w' := by
  have hbb : Byts ys := Byts.right hpb
  have hlb : (be4 s ++ ys).length = 4 + ys.length := by simp [be4]; omega
  have hL4 : 4 < (be4 s ++ ys).length := by have : ys.length ≠ 0 := fun e => hys (List.eq_nil_of_length_eq_zero e); omega
  have hL5 : (be4 s ++ ys).length ≤ 8192 := by omega
  have hq : (s == adler ys) = false := by simpa using hne
  have HX : Hid (Byts (be4 s ++ ys) ∧ Byts ys ∧ Nam w ∧ PNam w) := ⟨hpb, hbb, hn, hp⟩
  obtain ⟨ao, cap, rfl, hcap, _⟩ := id hs
  obtain ⟨ua, m, uc, eP, hsu⟩ := cut4 hs (by omega)
  rw [show (be4 s ++ ys).drop 4 = ys from rfl] at hsu
  have HSU : Hid (∀ k, (Value.slice ua m uc).ownBlock = some k → k < w.heap.size) := fun k e => hsu.lt hys k e
  obtain ⟨L, hL⟩ : ∃ L, L = (be4 s ++ ys).length := ⟨_, rfl⟩
  rw [← hL] at hs hL4 hL5 hcap eP ⊢
  obtain ⟨W, hW⟩ : ∃ W, W = w.alloc (.cells (zPk 0) 39) := ⟨_, rfl⟩
  have HW : Hid (Below w.heap.size w W ∧ W.heap[w.heap.size]? = some (.cells (zPk 0) 39 (0, 0)) ∧ Sees W (.slice ao L cap) (be4 s ++ ys) ∧ Sees W (.slice ua m uc) ys ∧ L = (be4 s ++ ys).length) := by
    have hb : Below w.heap.size w W := by rw [hW]; exact one_alloc _ _
    exact ⟨hb, by rw [hW]; exact heap_alloc_new _ _, hs.below hb (Nat.le_refl _), hsu.below hb (Nat.le_refl _), hL⟩
  have HA : Hid _ := hW
  have hd1 : decide ((L : Int) ≤ 8192) = true := decide_eq_true (by omega)
  have hd2 : decide ((4 : Int) < L) = true := decide_eq_true (by omega)
  clear hW hs hsu hn hp hbb hpb hL hlb hys hl hne
  go_enter Tryz.func27, Tryz.ntmps27
  go_upto_region 1 with fail
  rw [← HA.out]
  clear HA
  go_wp2_with fail
  refine (need_true _).mono ?_
  rintro _ w1 ⟨rfl, h1⟩
  rw [h1]
  clear h1 w1
  go_wp2_with fail
  refine (new_any _ (be4 s ++ ys) _ HW.out.2.2.1 (by have := HW.out.2.2.2.2; omega)).mono ?_
  rintro _ w2 ⟨g, v2, rfl, hR, hgl, ho, b2⟩
  have hsz := lt_of_block HW.out.2.1
  have H2 : Hid (PrH w g w2 ∧ IsR w2 g v2 (be4 s ++ ys) 0 ∧ Sees w2 (.slice ua m uc) ys ∧ (∀ k, v2.ownBlock = some k → w.heap.size < k ∧ k < w2.heap.size)) := by
    have hb2 : Below w.heap.size w w2 := HW.out.1.trans (b2.mono HW.out.1.size)
    have l1 := HX.out.2.2.1.lt
    have l2 := HX.out.2.2.2.lt
    exact ⟨⟨hb2, (Below.kept b2).heap HW.out.2.1 (by omega), HX.out.2.2.1.below hb2 l1, HX.out.2.2.2.below hb2 l2, by omega, by omega, by omega⟩, hR, HW.out.2.2.2.1.below b2 (Nat.le_refl _), fun k e => by have := ho.lt k e; omega⟩
  clear hR hgl ho b2 HW hsz
  go_upto_region 3 with fail
  have HD : Hid (PrH w g w2.drew ∧ IsR w2.drew g v2 (be4 s ++ ys) 0 ∧ Sees w2.drew (.slice ua m uc) ys) := ⟨H2.out.1.later HX.out.2.2.1 HX.out.2.2.2 (below_drewN (Below.refl _ _) 1), H2.out.2.1.kept ((Kept.refl w2 (fun _ => False)).drewN 1) (fun h => h) (fun _ _ h => h), H2.out.2.2.1.below (below_drewN (Below.refl _ _) 1) (Nat.le_refl _)⟩
  refine wp_region_held_drew (S := (fun _ => True)) (by kernel_rfl) ?_ (fun hHeld => ?_)
  · trivial
  refine wpAnyH_take (i := 0) (oi := ⟨some 18, .move (.tmp 3), 87, "packet.go:62", #[], none⟩) (v := ?_) rfl (by kernel_rfl) (by kernel_rfl) (by kernel_rfl) (fun _ _ _ h => h) (Or.inl ⟨by rfl, ?_⟩) (by assumption) ?_
  rotate_left
  · (intro w hSw; (try dsimp only at hSw); go_simp) <;> with_reducible rfl
  try simp only [Act.put, List.setIfInBounds_toArray, List.set_cons_zero, List.set_cons_succ]
  refine wpAnyH_take (i := 2) (oi := ⟨some 20, .move (.tmp 0), 30, "packet.go:62", #[], none⟩) (v := ?_) rfl (by kernel_rfl) (by kernel_rfl) (by kernel_rfl) (fun _ _ _ h => h) (Or.inl ⟨by rfl, ?_⟩) (by assumption) ?_
  rotate_left
  · (intro w hSw; (try dsimp only at hSw); go_simp) <;> with_reducible rfl
  try simp only [Act.put, List.setIfInBounds_toArray, List.set_cons_zero, List.set_cons_succ]
  refine wpAnyH_take (i := 3) (oi := ⟨some 21, .slice 30 (.tmp 20) (some (.const (.int .i64 4))) none none, 30, "packet.go:62", #[⟨2, .data⟩], none⟩) (v := .slice ua m uc) rfl (by kernel_rfl) (by kernel_rfl) (by kernel_rfl) (fun _ _ _ h => h) (Or.inl ⟨by rfl, fun w' hSw => by rw [← eP]; go_simp; intro hlt; omega⟩) (by assumption) ?_
  try simp only [Act.put, List.setIfInBounds_toArray, List.set_cons_zero, List.set_cons_succ]
  refine wpAnyH_ready (rs := [1]) (by kernel_rfl) (by simp) ?_
  refine AllReadyH.cons (o := { dst := some 19, op := Op.call { callee := Callee.value (Operand.func 43), args := #[Operand.tmp 18], argTypes := #[87] }, type := 23, pos := "packet.go:62", after := #[{ on := 0, ground := Ground.data }], guard := none }) rfl (fun K hK => ?_) AllReadyH.nil
  go_simp
  refine (gU32 (g := g) (v := v2) (w := w2.drew) s HD.out.2.1 HX.out.1).mono ?_
  rintro _ w3 ⟨rfl, v3, h1, h2, h3⟩
  have H3 : Hid (PrH w g w3 ∧ IsR w3 g v3 ys 0 ∧ Sees w3 (.slice ua m uc) ys ∧ (∀ k, v3.ownBlock = some k → w.heap.size < k ∧ k < w2.heap.size) ∧ w2.heap.size ≤ w3.heap.size) := ⟨HD.out.1.kept HX.out.2.2.1 HX.out.2.2.2 h3 (fun k e => by have := HD.out.1.gl; omega), h1, HD.out.2.2.kept h3 (fun k e e2 => by have := HSU.out k e; have := HD.out.1.gl; omega), fun k e => H2.out.2.2.2 k (h2 k e), by have := h3.size; simpa using this⟩
  clear h1 h2 h3
  refine hK.out _ _ trivial (fun hHeld => ?_)
  clear hK K
  refine wpAnyH_ready (rs := [4]) (by kernel_rfl) (by simp) ?_
  refine AllReadyH.cons (o := { dst := some 22, op := Op.call { callee := Callee.value (Operand.func 16), args := #[Operand.tmp 21], argTypes := #[30] }, type := 23, pos := "packet.go:62", after := #[{ on := 3, ground := Ground.data }, { on := 1, ground := Ground.chain }], guard := none }) rfl (fun K hK => ?_) AllReadyH.nil
  go_simp
  refine (packSum_any _ ys _ H3.out.2.2.1 HX.out.2.1).mono ?_
  rintro _ w4 ⟨rfl, h4⟩
  rw [h4]
  clear h4 w4
  refine hK.out _ _ trivial (fun hHeld => ?_)
  clear hK K
  refine wpAnyH_take (i := 5) (oi := ⟨some 23, .binOp .eql 23 (.tmp 19) (.tmp 22) 23, 4, "packet.go:62", #[⟨1, .data⟩, ⟨4, .data⟩], none⟩) (v := ?_) rfl (by kernel_rfl) (by kernel_rfl) (by kernel_rfl) (fun _ _ _ h => h) (Or.inl ⟨by rfl, ?_⟩) (by assumption) ?_
  rotate_left
  · (intro w hSw; (try dsimp only at hSw); go_simp) <;> with_reducible rfl
  try simp only [Act.put, List.setIfInBounds_toArray, List.set_cons_zero, List.set_cons_succ]
  refine wpAnyH_ready (rs := [6]) (by kernel_rfl) (by simp) ?_
  refine AllReadyH.cons (o := { dst := some 24, op := Op.call { callee := Callee.value (Operand.func 41), args := #[Operand.tmp 23], argTypes := #[4] }, type := 0, pos := "packet.go:62", after := #[{ on := 5, ground := Ground.data }, { on := 4, ground := Ground.chain }], guard := none }) rfl (fun K hK => ?_) AllReadyH.nil
  go_simp
  refine (need_false _).mono ?_
  rintro _ w4 ⟨rfl, h4⟩
  rw [h4]
  clear h4 w4
  exact ⟨rfl, rfl, H3.out.1.bel⟩

end Go.Proofs.YtgeoocchdpehdaaGreatDoor

namespace Go.Proofs.YtgeoocchdpehdaaGreatDoor
open Go.RowKit
set_option maxRecDepth 8000

theorem readDef_idle (a b : Addr) (w : World) : CallsD Tryz.prog 26 #[.pointer (some a), .pointer (some b)] .returning w fun e u' w' => e = .returned (.tuple #[]) ∧ u' = .returning ∧ w' = w := by
  refine callsD_of_wpS Tryz.func26 rfl fun c₀ cs hu => ?_
  apply wpS_seq
  apply wpS_region
  simp [wpOpsS, go_sem, recoverD, hu, Tryz.ntmps26, Exit.thenS]
  refine wpS_cond (t := false) (by simp [Act.eval, Array.replicate]) ?_
  simp only [Bool.false_eq_true, if_false]
  refine wpS_of_wp (wp_skip ?_)
  cases c₀
  simp_all [bodyPostS, results, Tryz.results26]

set_option maxHeartbeats 4000000 in
theorem readDef_panic (q h : Nat) (u : TypeId) (pv : Value) (older : List PanicEntry) (w : World) (hq : w.heap[q]? = some (.cells (zPk 0) 39 (0, 0))) (hh : w.heap[h]? = some (.cells #[.int .i64 0] 42 (0, 0))) (hne : q ≠ h) :
    CallsD Tryz.prog 26 #[.pointer (some ⟨q, 0, none⟩), .pointer (some ⟨h, 0, none⟩)] (.panicking ({ v := .iface u pv, recovered := false } :: older)) w fun e u' w' =>
      e = .returned (.tuple #[]) ∧ u' = .panicking ({ v := .iface u pv, recovered := true } :: older) ∧ w'.heap[q]? = some (.cells (zPk 0) 39 (0, 0)) ∧ w'.heap[h]? = some (.cells #[.int .i64 150] 42 (0, 0)) ∧ Kept w w' (fun k => k = q ∨ k = h) := by
  refine callsD_of_wpS Tryz.func26 rfl fun c₀ cs hu => ?_
  apply wpS_seq
  apply wpS_region
  simp [wpOpsS, go_sem, recoverD, hu, Tryz.ntmps26, Exit.thenS]
  refine wpS_cond (t := true) (by simp [Act.eval, Array.replicate]) ?_
  simp only [if_true]
  rw [show (#[Value.pointer (some ⟨q, 0, none⟩), Value.pointer (some ⟨h, 0, none⟩)] ++ ((Array.replicate 3 undef).setIfInBounds 0 (Value.iface u pv)).setIfInBounds 1 (Value.bool true)) = #[Value.pointer (some ⟨q, 0, none⟩), Value.pointer (some ⟨h, 0, none⟩), Value.iface u pv, Value.bool true, undef] from rfl]
  refine wpS_of_wp ?_
  have q32k : (Tryz.prog.info? 39).map (·.size) = some (zPk 0).size := pkSz0
  have u1k : (zPk 0).all (·.oneCell') = true := by simp [Value.oneCell']
  have szk : (zPk 0).size = (zPk 0).size := rfl
  have r1 : (w.setRow q (zPk 0)).heap[q]? = some (.cells (zPk 0) 39 (0, 0)) := setRow_heap _ _ _ _ _ _ hq
  have r2 : (w.setRow q (zPk 0)).heap[h]? = some (.cells #[.int .i64 0] 42 (0, 0)) := by rw [setRow_other _ _ _ _ (fun e => hne e.symm)]; exact hh
  have k1 : Kept w (w.setRow q (zPk 0)) (fun k => k = q ∨ k = h) := ⟨rfl, rfl, rfl, by simp, fun k _ hn => setRow_other _ _ _ _ (fun e => hn (.inl e))⟩
  have hw1 := hq
  obtain ⟨w1, e1⟩ : ∃ w1, w1 = w.setRow q (zPk 0) := ⟨_, rfl⟩
  rw [← e1] at r1 r2 k1
  have c0 : w1.cell? ⟨h, 0, none⟩ = some (.int .i64 0) := pk_at r2 rfl
  have f0 := frozen_of_row w1 h 0 _ _ r2
  have HE : Hid _ := e1
  have HR : Hid (w1.heap[q]? = some (.cells (zPk 0) 39 (0, 0)) ∧ w1.heap[h]? = some (.cells #[.int .i64 0] 42 (0, 0)) ∧ Kept w w1 (fun k => k = q ∨ k = h) ∧ q ≠ h) := ⟨r1, r2, k1, hne⟩
  clear e1 r1 r2 k1 hne hh hq
  go_wp2_with (first | (refine wpList_store_row rfl 39 _ _ rfl q (zPk 0) rfl rfl 39 _ hw1 q32k szk u1k ?_; rw [← HE.out]))
  have k2 : Kept w1 (w1.setCell ⟨h, 0, none⟩ (.int .i64 150)) (fun k => k = h) := (Kept.refl w1 (fun k => k = h)).setCell ⟨h, 0, none⟩ _ (fun _ => rfl)
  have F1 := k2.heap HR.out.1 HR.out.2.2.2
  have F2 : (w1.setCell ⟨h, 0, none⟩ (.int .i64 150)).heap[h]? = some (.cells #[.int .i64 150] 42 (0, 0)) := heap_setR (i := 0) _ HR.out.2.1
  have F3 : Kept w (w1.setCell ⟨h, 0, none⟩ (.int .i64 150)) (fun k => k = q ∨ k = h) := HR.out.2.2.1.trans k2 (fun k _ e => .inr e)
  clear HR HE c0 f0 k2 hw1 q32k u1k
  generalize (w1.setCell ⟨h, 0, none⟩ (.int .i64 150)) = w2 at *
  simp [bodyPostS, results, Tryz.results26]
  exact ⟨F1, F2, F3⟩

theorem resCell2 {fn : Func} {p q : Tmp} {t u : TypeId} (h : fn.results = #[.cell p t, .cell q u]) (tmps : Array Value) (P : Program) (w : World) : (results fn tmps).run P w = ((asAddr (tmps.getD p undef)).run P w).andThen fun a w' => ((loadVar t a).run P w').andThen fun x w'' => ((asAddr (tmps.getD q undef)).run P w'').andThen fun b w3 => ((loadVar u b).run P w3).andThen fun y w4 => .ok (.tuple #[x, y]) w4 := by
  simp only [results, h]
  simp [Sem.run_bind, Result.andThen]

theorem res2 {P : Program} {fn : Func} {p q : Tmp} {t u : TypeId} (h : fn.results = #[.cell p t, .cell q u]) (tmps : Array Value) (w : World) (a b : Addr) (x y : Value) (hp : tmps.getD p undef = .pointer (some a)) (hq : tmps.getD q undef = .pointer (some b)) (hx : (loadVar t a).run P w = .ok x w) (hy : (loadVar u b).run P w = .ok y w) : (results fn tmps).run P w = .ok (.tuple #[x, y]) w := by
  rw [resCell2 h, hp, hq]
  simp only [asAddr, Sem.run_pure, Result.andThen_ok, hx, hy]

theorem pk_oneS {w : World} {tc : List Value} {bv : Value} {d : PkD} (h : SeesPk w tc bv d) : (pkL d tc bv).toArray.all (·.oneCell') = true := by
  obtain ⟨rc, e, hr⟩ := h.tx
  obtain ⟨b0, b1, b2, rfl⟩ := sees_form h.bys
  obtain ⟨q0, q1, d0, d1, d2, a0, a1, a2, q4, q5, q6, q7, q8, e0, e1, e2, o0, o1, o2, rfl⟩ := rq_forms hr
  subst e
  simp [pkL, Value.oneCell', txHead]

theorem load_errno {w : World} {a : Addr} {x : Value} (h : w.cell? a = some x) : (loadVar 42 a).run Tryz.prog w = .ok x w := by
  have hu := Tryz.underlying42
  simp [loadVar, go_sem, h]

theorem two_res (w : World) : ((w.alloc (.cells (zPk 0) 39)).alloc (.cells #[.int .i64 0] 42)).heap[w.heap.size]? = some (.cells (zPk 0) 39 (0, 0)) ∧ ((w.alloc (.cells (zPk 0) 39)).alloc (.cells #[.int .i64 0] 42)).heap[w.heap.size + 1]? = some (.cells #[.int .i64 0] 42 (0, 0)) := by
  refine ⟨by rw [Below.heap_alloc _ _ _ (by simp)]; exact heap_alloc_new _ _, ?_⟩
  have := heap_alloc_new (w.alloc (.cells (zPk 0) 39)) (.cells #[.int .i64 0] 42)
  simpa using this

set_option maxHeartbeats 4000000 in
theorem readP_sum (s : Int) (ys : List Int) (hpb : Byts (be4 s ++ ys)) (hys : ys ≠ []) (hl : ys.length ≤ 8188) (hne : s ≠ adler ys) (b : Value) (w : World) (hs : Sees w b (be4 s ++ ys)) (hn : Nam w) (hp : PNam w) :
    Calls Tryz.prog 8 #[b] w fun r w' => r = .returned (.tuple #[.agg (zPk 0), .int .i64 150]) ∧ Below w.heap.size w w' := by
  have hmf : ∀ (fn : Fn) (first cap : Array Value) (w : World), (Instr.makeFunc fn first cap).run Tryz.prog w = .ok (.func fn first cap) w := fun _ _ _ _ => rfl
  obtain ⟨W, hW⟩ : ∃ W, W = (w.alloc (.cells (zPk 0) 39)).alloc (.cells #[.int .i64 0] 42) := ⟨_, rfl⟩
  have hb : Below w.heap.size w W := by rw [hW]; exact two_alloc _ _ _
  have HW : Hid (Below w.heap.size w W ∧ W.heap[w.heap.size]? = some (.cells (zPk 0) 39 (0, 0)) ∧ W.heap[w.heap.size + 1]? = some (.cells #[.int .i64 0] 42 (0, 0))) := ⟨hb, by rw [hW]; exact (two_res w).1, by rw [hW]; exact (two_res w).2⟩
  have HP : Hid _ := parsed_sum s ys hpb hys hl hne b W (hs.below hb (Nat.le_refl _)) (hn.below hb hn.lt) (hp.below hb hp.lt)
  obtain ⟨b0, b1, b2, rfl⟩ := sees_form hs
  have HA : Hid _ := hW
  clear hW hb hs hn hp hne hl hys hpb
  go_enter_defers Tryz.func8, Tryz.ntmps8
  go_wp2_with fail
  rw [← HA.out]
  refine Calls.mono HP.out ?_
  rintro _ w1 ⟨rfl, bl⟩
  have hl1 := lt_of_block HW.out.2.2
  have r1 := (Below.kept bl).heap HW.out.2.1 (by omega)
  have r2 := (Below.kept bl).heap HW.out.2.2 (by omega)
  refine leaves_cons (f := 26) (args := #[.pointer (some ⟨w.heap.size, 0, none⟩), .pointer (some ⟨w.heap.size + 1, 0, none⟩)]) (by simp) (by simp [go_sem]) ?_
  refine (readDef_panic w.heap.size (w.heap.size + 1) _ _ [] w1 r1 r2 (by omega)).mono ?_
  rintro e u' w2 ⟨rfl, rfl, s1, s2, k2⟩
  have hld1 := run_loadVar_row (P := Tryz.prog) w2 w.heap.size 39 39 _ (0, 0) _ s1 Tryz.underlying39 rfl pkSz0
  have c2 : w2.cell? ⟨w.heap.size + 1, 0, none⟩ = some (.int .i64 150) := pk_at s2 rfl
  have HF : Hid (Below w.heap.size w w2) := (HW.out.1.trans (bl.mono HW.out.1.size)).trans (k2.below (by have := HW.out.1.size; have := bl.size; omega) (fun k e => by omega))
  clear HW HP HA bl r1 r2 s1 s2 k2
  refine ⟨.tuple #[.agg (zPk 0), .int .i64 150], ?_, rfl, HF.out⟩
  exact res2 Tryz.results8 _ _ _ _ _ _ rfl rfl hld1 (load_errno c2)

set_option maxHeartbeats 4000000 in
theorem readP_good (p : PkD) (tz : Bool) (hz : tz = true ↔ p.tx = txN) (hg : p.good) (hby : Byts p.bys) (hc : chkP p tz = true) (b : Value) (w : World) (hs : Sees w b (pkB p)) (hn : Nam w) (hp : PNam w) :
    Calls Tryz.prog 8 #[b] w fun r w' => ∃ tc bv, r = .returned (.tuple #[.agg (pkL p tc bv).toArray, .int .i64 0]) ∧ OwnPk w' w.heap.size tc bv p ∧ Below w.heap.size w w' := by
  have hmf : ∀ (fn : Fn) (first cap : Array Value) (w : World), (Instr.makeFunc fn first cap).run Tryz.prog w = .ok (.func fn first cap) w := fun _ _ _ _ => rfl
  obtain ⟨W, hW⟩ : ∃ W, W = (w.alloc (.cells (zPk 0) 39)).alloc (.cells #[.int .i64 0] 42) := ⟨_, rfl⟩
  have hb : Below w.heap.size w W := by rw [hW]; exact two_alloc _ _ _
  have HW : Hid (Below w.heap.size w W ∧ W.heap[w.heap.size]? = some (.cells (zPk 0) 39 (0, 0)) ∧ W.heap[w.heap.size + 1]? = some (.cells #[.int .i64 0] 42 (0, 0))) := ⟨hb, by rw [hW]; exact (two_res w).1, by rw [hW]; exact (two_res w).2⟩
  have HP : Hid _ := parsed_good p tz hz hg hby hc b W (hs.below hb (Nat.le_refl _)) (hn.below hb hn.lt) (hp.below hb hp.lt)
  obtain ⟨b0, b1, b2, rfl⟩ := sees_form hs
  have HA : Hid _ := hW
  clear hW hb hs hn hp hc hby hg hz
  go_enter_defers Tryz.func8, Tryz.ntmps8
  go_wp2_with fail
  rw [← HA.out]
  refine Calls.mono HP.out ?_
  rintro _ w1 ⟨tc, bv, rfl, hpk, bl⟩
  have hl1 := lt_of_block HW.out.2.2
  have r1 := (Below.kept bl).heap HW.out.2.1 (by omega)
  have r2 := (Below.kept bl).heap HW.out.2.2 (by omega)
  have q32 := pkSz p tc bv hpk.sees.tx.len
  have u1p : (pkL p tc bv).toArray.all (·.oneCell') = true := pk_oneS hpk.sees
  have szp : (zPk 0).size = (pkL p tc bv).toArray.size := by simp [pkL, hpk.sees.tx.len]
  have F1 := setRow_heap w1 w.heap.size _ (pkL p tc bv).toArray _ _ r1
  have F2 : (w1.setRow w.heap.size (pkL p tc bv).toArray).heap[w.heap.size + 1]? = some (.cells #[.int .i64 0] 42 (0, 0)) := by rw [setRow_other _ _ _ _ (by omega)]; exact r2
  have kf : Kept w1 (w1.setRow w.heap.size (pkL p tc bv).toArray) (fun k => k = w.heap.size) := ⟨rfl, rfl, rfl, by simp, fun k _ hn => setRow_other _ _ _ _ hn⟩
  obtain ⟨w2, e2⟩ : ∃ w2, w2 = w1.setRow w.heap.size (pkL p tc bv).toArray := ⟨_, rfl⟩
  rw [← e2] at F1 F2 kf
  have c2 : w2.cell? ⟨w.heap.size + 1, 0, none⟩ = some (.int .i64 0) := pk_at F2 rfl
  have f2 := frozen_of_row w2 (w.heap.size + 1) 0 _ _ F2
  have k3 : Kept w1 (w2.setCell ⟨w.heap.size + 1, 0, none⟩ (.int .i64 0)) (fun k => k = w.heap.size ∨ k = w.heap.size + 1) := (kf.mono (fun k _ e => Or.inl e)).setCell ⟨w.heap.size + 1, 0, none⟩ _ (fun _ => .inr rfl)
  have HF : Hid ((w2.setCell ⟨w.heap.size + 1, 0, none⟩ (.int .i64 0)).heap[w.heap.size]? = some (.cells (pkL p tc bv).toArray 39 (0, 0)) ∧ (w2.setCell ⟨w.heap.size + 1, 0, none⟩ (.int .i64 0)).cell? ⟨w.heap.size + 1, 0, none⟩ = some (.int .i64 0) ∧ Below w.heap.size w (w2.setCell ⟨w.heap.size + 1, 0, none⟩ (.int .i64 0)) ∧ OwnPk (w2.setCell ⟨w.heap.size + 1, 0, none⟩ (.int .i64 0)) w.heap.size tc bv p) := by
    have s1 := bl.size
    have s2 := HW.out.1.size
    exact ⟨((Kept.refl w2 (fun k => k = w.heap.size + 1)).setCell ⟨w.heap.size + 1, 0, none⟩ (.int .i64 0) (fun _ => rfl)).heap F1 (by omega), pk_at (heap_setR (i := 0) (.int .i64 0) F2) rfl, (HW.out.1.trans (bl.mono HW.out.1.size)).trans (k3.below (by omega) (fun k e => by omega)), hpk.kept k3 (fun k e => by omega) (by omega)⟩
  have HE2 : Hid _ := e2
  clear e2 F1 F2 kf k3
  go_wp2_with (refine wpList_store_row rfl 39 _ _ rfl w.heap.size (pkL p tc bv).toArray rfl rfl 39 _ r1 q32 szp u1p ?_; rw [← HE2.out])
  refine leaves_cons (f := 26) (args := #[.pointer (some ⟨w.heap.size, 0, none⟩), .pointer (some ⟨w.heap.size + 1, 0, none⟩)]) (by simp) (by simp [go_sem]) ?_
  refine (readDef_idle _ _ _).mono ?_
  rintro e u' w3 ⟨rfl, rfl, h3⟩
  rw [h3]
  have hld1 := run_loadVar_row (P := Tryz.prog) _ w.heap.size 39 39 _ (0, 0) _ HF.out.1 Tryz.underlying39 rfl q32
  exact ⟨_, res2 Tryz.results8 _ _ _ _ _ _ rfl rfl hld1 (load_errno HF.out.2.1), tc, bv, rfl, HF.out.2.2.2, HF.out.2.2.1⟩
end Go.Proofs.YtgeoocchdpehdaaGreatDoor

namespace Go.Proofs.YtgeoocchdpehdaaGreatDoor
open Go.RowKit
set_option maxRecDepth 8000

set_option maxHeartbeats 2000000 in
theorem parsed_few (xs : List Int) (hl : xs.length ≤ 4) (b : Value) (w : World) (hs : Sees w b xs) :
    Calls Tryz.prog 27 #[b] w fun r w' => r = .panicked [{ v := .iface 102 (.agg #[]), recovered := false }] ∧ Below w.heap.size w w' := by
  obtain ⟨ao, cap, rfl, hcap, _⟩ := id hs
  obtain ⟨L, hL⟩ : ∃ L, L = xs.length := ⟨_, rfl⟩
  rw [← hL] at hl ⊢
  obtain ⟨W, hW⟩ : ∃ W, W = w.alloc (.cells (zPk 0) 39) := ⟨_, rfl⟩
  have HW : Hid (Below w.heap.size w W) := by rw [hW]; exact one_alloc _ _
  have HA : Hid _ := hW
  have hd2 : decide ((4 : Int) < L) = false := decide_eq_false (by omega)
  clear hW hs hL hl hcap
  go_enter Tryz.func27, Tryz.ntmps27
  go_upto_region 1 with fail
  rw [← HA.out]
  clear HA
  go_wp2_with fail
  refine (need_false _).mono ?_
  rintro _ w1 ⟨rfl, h1⟩
  rw [h1]
  clear h1 w1
  exact ⟨rfl, rfl, HW.out⟩

set_option maxHeartbeats 2000000 in
theorem parsed_many (xs : List Int) (hl : 8192 < xs.length) (b : Value) (w : World) (hs : Sees w b xs) :
    Calls Tryz.prog 27 #[b] w fun r w' => r = .panicked [{ v := .iface 102 (.agg #[]), recovered := false }] ∧ Below w.heap.size w w' := by
  obtain ⟨ao, cap, rfl, hcap, _⟩ := id hs
  obtain ⟨L, hL⟩ : ∃ L, L = xs.length := ⟨_, rfl⟩
  rw [← hL] at hl ⊢
  obtain ⟨W, hW⟩ : ∃ W, W = w.alloc (.cells (zPk 0) 39) := ⟨_, rfl⟩
  have HW : Hid (Below w.heap.size w W) := by rw [hW]; exact one_alloc _ _
  have HA : Hid _ := hW
  have hd1 : decide ((L : Int) ≤ 8192) = false := decide_eq_false (by omega)
  have hd2 : decide ((4 : Int) < L) = true := decide_eq_true (by omega)
  clear hW hs hL hl hcap
  go_enter Tryz.func27, Tryz.ntmps27
  go_upto_region 1 with fail
  rw [← HA.out]
  clear HA
  go_wp2_with fail
  refine (need_false _).mono ?_
  rintro _ w1 ⟨rfl, h1⟩
  rw [h1]
  clear h1 w1
  exact ⟨rfl, rfl, HW.out⟩
end Go.Proofs.YtgeoocchdpehdaaGreatDoor

namespace Go.Proofs.YtgeoocchdpehdaaGreatDoor
open Go.RowKit
set_option maxRecDepth 8000

set_option maxHeartbeats 4000000 in
theorem readP_gone (xs : List Int) (b : Value) (w : World) (hs : Sees w b xs) (hn : Nam w) (hp : PNam w)
    (hg : ∀ W, Sees W b xs → Nam W → PNam W → Calls Tryz.prog 27 #[b] W fun r w' => r = .panicked [{ v := .iface 102 (.agg #[]), recovered := false }] ∧ Below W.heap.size W w') :
    Calls Tryz.prog 8 #[b] w fun r w' => r = .returned (.tuple #[.agg (zPk 0), .int .i64 150]) ∧ Below w.heap.size w w' := by
  have hmf : ∀ (fn : Fn) (first cap : Array Value) (w : World), (Instr.makeFunc fn first cap).run Tryz.prog w = .ok (.func fn first cap) w := fun _ _ _ _ => rfl
  obtain ⟨W, hW⟩ : ∃ W, W = (w.alloc (.cells (zPk 0) 39)).alloc (.cells #[.int .i64 0] 42) := ⟨_, rfl⟩
  have hb : Below w.heap.size w W := by rw [hW]; exact two_alloc _ _ _
  have HW : Hid (Below w.heap.size w W ∧ W.heap[w.heap.size]? = some (.cells (zPk 0) 39 (0, 0)) ∧ W.heap[w.heap.size + 1]? = some (.cells #[.int .i64 0] 42 (0, 0))) := ⟨hb, by rw [hW]; exact (two_res w).1, by rw [hW]; exact (two_res w).2⟩
  have HP : Hid _ := hg W (hs.below hb (Nat.le_refl _)) (hn.below hb hn.lt) (hp.below hb hp.lt)
  obtain ⟨b0, b1, b2, rfl⟩ := sees_form hs
  have HA : Hid _ := hW
  clear hW hb hs hn hp hg
  go_enter_defers Tryz.func8, Tryz.ntmps8
  go_wp2_with fail
  rw [← HA.out]
  refine Calls.mono HP.out ?_
  rintro _ w1 ⟨rfl, bl⟩
  have hl1 := lt_of_block HW.out.2.2
  have r1 := (Below.kept bl).heap HW.out.2.1 (by omega)
  have r2 := (Below.kept bl).heap HW.out.2.2 (by omega)
  refine leaves_cons (f := 26) (args := #[.pointer (some ⟨w.heap.size, 0, none⟩), .pointer (some ⟨w.heap.size + 1, 0, none⟩)]) (by simp) (by simp [go_sem]) ?_
  refine (readDef_panic w.heap.size (w.heap.size + 1) _ _ [] w1 r1 r2 (by omega)).mono ?_
  rintro e u' w2 ⟨rfl, rfl, s1, s2, k2⟩
  have hld1 := run_loadVar_row (P := Tryz.prog) w2 w.heap.size 39 39 _ (0, 0) _ s1 Tryz.underlying39 rfl pkSz0
  have c2 : w2.cell? ⟨w.heap.size + 1, 0, none⟩ = some (.int .i64 150) := pk_at s2 rfl
  have HF : Hid (Below w.heap.size w w2) := (HW.out.1.trans (bl.mono HW.out.1.size)).trans (k2.below (by have := HW.out.1.size; have := bl.size; omega) (fun k e => by omega))
  clear HW HP HA bl r1 r2 s1 s2 k2
  refine ⟨.tuple #[.agg (zPk 0), .int .i64 150], ?_, rfl, HF.out⟩
  exact res2 Tryz.results8 _ _ _ _ _ _ rfl rfl hld1 (load_errno c2)

theorem readP_few (xs : List Int) (hl : xs.length ≤ 4) (b : Value) (w : World) (hs : Sees w b xs) (hn : Nam w) (hp : PNam w) :
    Calls Tryz.prog 8 #[b] w fun r w' => r = .returned (.tuple #[.agg (zPk 0), .int .i64 150]) ∧ Below w.heap.size w w' :=
  readP_gone xs b w hs hn hp (fun W h _ _ => parsed_few xs hl b W h)

theorem readP_many (xs : List Int) (hl : 8192 < xs.length) (b : Value) (w : World) (hs : Sees w b xs) (hn : Nam w) (hp : PNam w) :
    Calls Tryz.prog 8 #[b] w fun r w' => r = .returned (.tuple #[.agg (zPk 0), .int .i64 150]) ∧ Below w.heap.size w w' :=
  readP_gone xs b w hs hn hp (fun W h _ _ => parsed_many xs hl b W h)
end Go.Proofs.YtgeoocchdpehdaaGreatDoor
