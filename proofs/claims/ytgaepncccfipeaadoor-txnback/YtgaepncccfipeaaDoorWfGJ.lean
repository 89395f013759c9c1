/- getOne and GetList of package pack at requests that stand in a Multi, at bytes that were laid. -/
import Derived.Test.YtgaepncccfipeaaDoorWfFJ
import Derived.Test.YtgaepncccfipeaaDoorCopyTJ
namespace Go.Proofs.YtgaepncccfipeaaDoor
open Go.RowKit
set_option maxRecDepth 8000

theorem getDefRequest (p : Addr) (w : World) : CallsD Tryd.prog 95 #[.pointer (some p)] .returning w fun e u' w' => e = .returned (.tuple #[]) ∧ u' = .returning ∧ w' = w := by
  refine callsD_of_wpS Tryd.func95 rfl fun c₀ cs hu => ?_
  apply wpS_seq
  apply wpS_region
  simp [wpOpsS, go_sem, recoverD, hu, Tryd.ntmps95, Exit.thenS]
  refine wpS_cond (t := false) (by simp [Act.eval, Array.replicate]) ?_
  simp only [Bool.false_eq_true, if_false]
  refine wpS_of_wp (wp_skip ?_)
  cases c₀
  simp_all [bodyPostS, results, Tryd.results95]

theorem encIn_ne (r : Rq) (h : r.inOk = true) (rest : List Int) : encIn r ++ rest ≠ [] := by
  cases r with
  | mk f n ops =>
    rw [encIn_mk]
    repeat' split
    all_goals simp [encP]

set_option maxHeartbeats 1000000 in
theorem getOneRequest_bk (g : Nat) (v : Value) (r : Rq) (hok : r.inOk = true) (hgd : r.good) (rest : List Int) (w : World) (h : IsR w g v (encIn r ++ rest) 0) (hb : Byts (encIn r ++ rest)) (hn : Nam w) (hg0 : 0 < g) :
    Calls Tryd.prog 92 #[.pointer (some ⟨g, 0, none⟩), .func (.func 27) #[lay 5 320] #[]] w fun e w' => ∃ cs, e = .returned (.agg cs.toArray) ∧ cs.length = 11 ∧ RqIn w' (fun k => v.ownBlock = some k ∨ (w.heap.size ≤ k ∧ k < w'.heap.size)) cs r ∧ ReadsTo w g v ⟨0, rest, 0⟩ w' := by
  have H : Hid (IsR w g v (encIn r ++ rest) 0 ∧ Byts (encIn r ++ rest) ∧ g < w.heap.size ∧ Nam w) := ⟨h, hb, lt_of_block h.1, hn⟩
  have HVL : Hid (∀ k, v.ownBlock = some k → k < w.heap.size) := h.2.lt (encIn_ne r hok rest)
  clear h hb hn
  have hfn : ∀ w, (binOp .eql 68 (.func (.func 27) #[lay 5 320] #[]) .nilFunc).run Tryd.prog w = .ok (.bool false) w := fun _ => by kernel_rfl
  obtain ⟨V, eV⟩ : ∃ V, V = (w.alloc (.cells #[.pointer (some ⟨g, 0, none⟩)] 63)).alloc (.cells #[.int .i8 0, .string ⟨#[]⟩, .slice none 0 0, .slice none 0 0, .int .i32 0, .bool false, .bool false, .int .i64 0, .int .i32 0, .slice none 0 0, .slice none 0 0] 33) := ⟨_, rfl⟩
  have HV : Hid (Kept w V (fun _ => False) ∧ V.heap[w.heap.size + 1]? = some (.cells #[.int .i8 0, .string ⟨#[]⟩, .slice none 0 0, .slice none 0 0, .int .i32 0, .bool false, .bool false, .int .i64 0, .int .i32 0, .slice none 0 0, .slice none 0 0] 33 (0, 0)) ∧ V.heap.size = w.heap.size + 2) := by
    subst eV
    exact ⟨((Kept.refl w _).alloc _).alloc _, by have := heap_alloc_new (w.alloc (.cells #[.pointer (some ⟨g, 0, none⟩)] 63)) (.cells #[.int .i8 0, .string ⟨#[]⟩, .slice none 0 0, .slice none 0 0, .int .i32 0, .bool false, .bool false, .int .i64 0, .int .i32 0, .slice none 0 0, .slice none 0 0] 33); simpa using this, by simp⟩
  have HE : Hid _ := eV
  have HX := getIn_bk r hok hgd g v rest V (H.out.1.kept HV.out.1 (fun h => h) (fun _ _ h => h)) H.out.2.1 (nam_kept H.out.2.2.2 HV.out.1 (fun _ _ h => h)) hg0
  clear eV
  go_enter_defers Tryd.func92, Tryd.ntmps92
  go_wp2_with fail
  rw [← HE.out]
  clear HE
  refine Calls.mono HX ?_
  clear HX
  rintro _ w2 ⟨cs, rfl, hcl, hrq, hr⟩
  obtain ⟨q0, q1, d0, d1, d2, a0, a1, a2, q4, q5, q6, q7, q8, e0, e1, e2, o0, o1, o2, rfl⟩ := rq_forms hrq.sees
  have H2 : Hid (ReadsTo w g v ⟨0, rest, 0⟩ w2 ∧ RqIn w2 (fun k => v.ownBlock = some k ∨ (V.heap.size ≤ k ∧ k < w2.heap.size)) [.int .i8 q0, .string q1, .slice d0 d1 d2, .slice a0 a1 a2, .int .i32 q4, .bool q5, .bool q6, .int .i64 q7, .int .i32 q8, .slice e0 e1 e2, .slice o0 o1 o2] r) := ⟨ReadsTo.next (HV.out.1.mono (fun _ _ h => h.elim)) (fun _ h => h) hr, hrq⟩
  obtain ⟨v2, _, _, a3⟩ := hr
  have hst := a3.heap HV.out.2.1 (by have := H.out.2.2.1; omega)
  have HS2 : Hid (V.heap.size ≤ w2.heap.size) := a3.size
  clear a3 hrq hcl
  have hrow := setRow_heap w2 (w.heap.size + 1) _ #[.int .i8 q0, .string q1, .slice d0 d1 d2, .slice a0 a1 a2, .int .i32 q4, .bool q5, .bool q6, .int .i64 q7, .int .i32 q8, .slice e0 e1 e2, .slice o0 o1 o2] _ _ hst
  have hk : Kept w2 (w2.setRow (w.heap.size + 1) #[.int .i8 q0, .string q1, .slice d0 d1 d2, .slice a0 a1 a2, .int .i32 q4, .bool q5, .bool q6, .int .i64 q7, .int .i32 q8, .slice e0 e1 e2, .slice o0 o1 o2]) (fun k => k = w.heap.size + 1) := ⟨rfl, rfl, rfl, by simp, fun k _ hn => setRow_other _ _ _ _ hn⟩
  have HF : Hid _ := And.intro hrow hk
  clear hrow hk
  go_wp2_with (refine wpList_store_row rfl 33 _ _ rfl (w.heap.size + 1) #[.int .i8 q0, .string q1, .slice d0 d1 d2, .slice a0 a1 a2, .int .i32 q4, .bool q5, .bool q6, .int .i64 q7, .int .i32 q8, .slice e0 e1 e2, .slice o0 o1 o2] rfl rfl 33 _ hst rq_size rfl (by simp [Value.oneCell']) ?_)
  obtain ⟨hrow, hk⟩ := HF.out
  have hrd : ReadsTo w g v ⟨0, rest, 0⟩ (w2.setRow (w.heap.size + 1) #[.int .i8 q0, .string q1, .slice d0 d1 d2, .slice a0 a1 a2, .int .i32 q4, .bool q5, .bool q6, .int .i64 q7, .int .i32 q8, .slice e0 e1 e2, .slice o0 o1 o2]) := H2.out.1.aside hk (fun k e => by omega) (by have := H.out.2.2.1; omega) (fun k e => by have := HVL.out k e; omega)
  have hrq : RqIn (w2.setRow (w.heap.size + 1) #[.int .i8 q0, .string q1, .slice d0 d1 d2, .slice a0 a1 a2, .int .i32 q4, .bool q5, .bool q6, .int .i64 q7, .int .i32 q8, .slice e0 e1 e2, .slice o0 o1 o2]) (fun k => v.ownBlock = some k ∨ (w.heap.size ≤ k ∧ k < (w2.setRow (w.heap.size + 1) #[.int .i8 q0, .string q1, .slice d0 d1 d2, .slice a0 a1 a2, .int .i32 q4, .bool q5, .bool q6, .int .i64 q7, .int .i32 q8, .slice e0 e1 e2, .slice o0 o1 o2]).heap.size)) [.int .i8 q0, .string q1, .slice d0 d1 d2, .slice a0 a1 a2, .int .i32 q4, .bool q5, .bool q6, .int .i64 q7, .int .i32 q8, .slice e0 e1 e2, .slice o0 o1 o2] r := RqIn.kept hk (fun k hq => by
    rcases hq with e | ⟨e1, e2⟩
    · exact ⟨by have := HVL.out k e; omega, .inl e⟩
    · exact ⟨by have := HV.out.2.2; omega, .inr ⟨by have := HV.out.2.2; omega, by simpa using e2⟩⟩) H2.out.2
  refine leaves_cons (f := 95) (args := #[.pointer (some ⟨w.heap.size, 0, none⟩)]) (by simp) (by simp [go_sem]) ?_
  refine (getDefRequest _ _).mono ?_
  rintro e u' w'' ⟨rfl, rfl, rfl⟩
  refine ⟨.agg #[.int .i8 q0, .string q1, .slice d0 d1 d2, .slice a0 a1 a2, .int .i32 q4, .bool q5, .bool q6, .int .i64 q7, .int .i32 q8, .slice e0 e1 e2, .slice o0 o1 o2], ?_, _, rfl, rfl, hrq, hrd⟩
  exact results_cell_row Tryd.results92 _ _ (w.heap.size + 1) 33 _ (0, 0) _ rfl hrow Tryd.underlying33 rfl rq_size
end Go.Proofs.YtgaepncccfipeaaDoor
