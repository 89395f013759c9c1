/- A ring that is nil, one that nobody made: what the statements' idle asks of them. -/
import Derived.Test.YtnnphmeocoijkaaCaI
import Derived.Test.YtnnphmeocoijkaaCaB
namespace Go.Proofs.Ytnnphmeocoijkaa
open Go.RowKit Go.Shelf
set_option maxRecDepth 8000
attribute [local go_sem] Oper.semAt_some

/-- No ring: nil, or a plain one. -/
def NoRg (v : Value) (w : World) : Prop := v = .pointer none ∨ ∃ p, v = .pointer (some ⟨p, 0, none⟩) ∧ IsRg 42 w p 0 []

theorem NoRg.below {v : Value} {w w' : World} (h : NoRg v w) (hb : Below w.heap.size w w') : NoRg v w' := by
  rcases h with h | ⟨p, h, hr⟩
  · exact .inl h
  · exact .inr ⟨p, h, hr.below hb hr.lt⟩

theorem putI_none {v : Value} {w : World} (h : NoRg v w) (x : Int) : Calls Try.prog 9 #[v, .int .i64 x] w fun e w' => e = .returned (.tuple #[]) ∧ w' = w := by
  rcases h with rfl | ⟨p, rfl, hr⟩
  · go_enter Try.func9, Try.ntmps9
    go_wp2
    all_goals ((first | go_end0 | refine bodyPost_ret (results_none rfl _ _ _) rfl ?_); exact ⟨rfl, rfl⟩)
  · exact putI_zero hr x

theorem lenI_none {v : Value} {w : World} (h : NoRg v w) : Calls Try.prog 11 #[v] w fun e w' => e = .returned (.int .i64 0) ∧ w' = w := by
  rcases h with rfl | ⟨p, rfl, hr⟩
  · go_enter Try.func11, Try.ntmps11
    go_wp2
    all_goals (go_ret; exact ⟨rfl, rfl⟩)
  · exact lenI_any hr

theorem atI_none {v : Value} {w : World} (h : NoRg v w) (i : Int) : Calls Try.prog 10 #[v, .int .i64 i] w fun e w' => e = .returned (.tuple #[.int .i64 0, .bool false]) ∧ w' = w := by
  have HL : Hid (Calls Try.prog 11 #[v] w fun e w' => e = .returned (.int .i64 0) ∧ w' = w) := lenI_none h
  clear h
  by_cases h0 : i < 0
  · clear HL
    go_enter Try.func10, Try.ntmps10
    go_wp2
    all_goals (go_ret2; exact ⟨rfl, rfl⟩)
  · have hi : 0 ≤ i := by omega
    go_enter Try.func10, Try.ntmps10
    go_wp2_with (go_at_call 11; refine (HL.out).mono ?_; rintro e w' ⟨rfl, rfl⟩)
    all_goals (go_ret2; exact ⟨rfl, rfl⟩)

theorem clearI_none {v : Value} {w : World} (h : NoRg v w) : Calls Try.prog 13 #[v] w fun e w' => e = .returned (.tuple #[]) ∧ NoRg v w' ∧ (v = .pointer none → w' = w) ∧ ∀ p, v = .pointer (some ⟨p, 0, none⟩) → Kept w w' (· = p) := by
  rcases h with rfl | ⟨p, rfl, hr⟩
  · have HZ : Hid (NoRg (.pointer none) w) := .inl rfl
    go_enter Try.func13, Try.ntmps13
    go_wp2
    all_goals ((first | go_end0 | refine bodyPost_ret (results_none rfl _ _ _) rfl ?_); exact ⟨rfl, HZ.out, fun _ => rfl, fun p e => by cases e⟩)
  · refine (clearI_any hr).mono ?_
    rintro e w' ⟨rfl, h1, h2⟩
    exact ⟨rfl, .inr ⟨p, rfl, h1⟩, fun e => (by cases e), fun q e => by cases e; exact h2⟩

/-- A plain ring, new. -/
theorem rg_plain (w : World) : ∃ Z : Array Value, (∀ w, (zeroValue 42).run Try.prog w = .ok (.agg Z) w) ∧ IsRg 42 (w.alloc (.cells Z 42)) w.heap.size 0 [] ∧ Below w.heap.size w (w.alloc (.cells Z 42)) := by
  refine ⟨(List.replicate 67 (Value.int .i64 0)).toArray, fun w => by kernel_rfl, ⟨0, fun _ => .int .i64 0, ?_, ⟨by omega, by simp, .inr ⟨rfl, rfl⟩, rfl, rfl, rfl, fun i x hx => by simp at hx, fun _ => rfl⟩⟩, (Below.refl _ _).alloc (Nat.le_refl _) _⟩
  have := World.rowIs_alloc w (List.replicate 67 (Value.int .i64 0)).toArray 42 (fun _ => .int .i64 0) (fun i hi => by
    rw [List.getElem?_toArray, List.getElem?_replicate, if_pos (by simpa using hi)])
  simpa using this

theorem allI_none {v : Value} {w : World} (h : NoRg v w) :
    Calls Try.prog 14 #[v] w fun e w' => e = .returned (.func (.func 23) #[] #[.pointer (some ⟨w.heap.size, 0, none⟩)]) ∧ IsRg 42 w' w.heap.size 0 [] ∧ Below w.heap.size w w' := by
  rcases h with rfl | ⟨p, rfl, hr⟩
  · have hmf : ∀ (fn : Fn) (first cap : Array Value) (w : World), (Instr.makeFunc fn first cap).run Try.prog w = .ok (.func fn first cap) w := fun _ _ _ _ => rfl
    obtain ⟨Z, hz, h1, h2⟩ := rg_plain w
    have HB : Hid (IsRg 42 (w.alloc (.cells Z 42)) w.heap.size 0 [] ∧ Below w.heap.size w (w.alloc (.cells Z 42))) := ⟨h1, h2⟩
    clear h1 h2
    go_enter Try.func14, Try.ntmps14
    go_wp2
    all_goals (go_ret; exact ⟨rfl, HB.out⟩)
  · exact allI_any hr

/-- What idle holds while it ranges. -/
structure Idl (w0 : World) (B b9 : Nat) (ov : Option Addr) (D : Blocks) (W : World) : Prop where
  box : W.heap[b9]? = some (.cells #[.int .i64 0] 3 (0, 0))
  nD : ¬ D b9
  no : NoRg (.pointer ov) W
  nO : ∀ p, Value.pointer ov = .pointer (some ⟨p, 0, none⟩) → ¬ D p
  bel : Below B w0 W
  dB : ∀ k, D k → B ≤ k
  hB : B ≤ w0.heap.size

theorem Idl.stays {w0 : World} {B b9 : Nat} {ov : Option Addr} {D0 D D' : Blocks} {W W' : World} (h : Idl w0 B b9 ov D W) (hk : Kept W W' (fun j => D j ∧ ¬ D0 j)) (hD : ∀ j, D' j → D j ∨ (W.heap.size ≤ j ∧ j < W'.heap.size)) : Idl w0 B b9 ov D' W' := by
  have far : ∀ k, k < W.heap.size → ¬ D k → ¬ D' k := fun k hl hn h' => by
    rcases hD k h' with h' | h'
    · exact hn h'
    · omega
  refine ⟨hk.heap h.box (fun e => h.nD e.1), far _ (lt_of_block h.box) h.nD, ?_, fun p e => ?_, h.bel.trans (hk.below (Nat.le_trans h.hB h.bel.size) (fun k e => h.dB k e.1)), fun k e => ?_, h.hB⟩
  · rcases h.no with e | ⟨p, e, hr⟩
    · exact .inl e
    · exact .inr ⟨p, e, hr.kept hk (fun d => h.nO p e d.1)⟩
  · rcases h.no with e' | ⟨q, e', hr⟩
    · rw [e] at e'; cases e'
    · rw [e] at e'; cases e'; exact far _ hr.lt (h.nO _ e)
  · rcases hD k e with e | e
    · exact h.dB k e
    · have := h.bel.size; have := h.hB; omega

set_option maxHeartbeats 1000000 in
theorem idle_none {v : Value} {w : World} {B : Nat} (h : NoRg v w) (x i : Int) (hv : ∀ p, v = .pointer (some ⟨p, 0, none⟩) → B ≤ p) (hB : B ≤ w.heap.size) :
    Calls Try.prog 6 #[v, .int .i64 x, .int .i64 i] w fun e w' => e = .returned (.bool true) ∧ Below B w w' := by
  have hnil : ∀ (g : Nat) (cs : Array Value) (w : World), (binOp BinOp.eql 60 (.func (.func g) #[] cs) .nilFunc).run Try.prog w = .ok (.bool false) w := fun _ _ _ => by kernel_rfl
  have HN : Hid (NoRg v w) := h
  obtain ⟨ov, rfl⟩ : ∃ ov, v = .pointer ov := by
    rcases h with rfl | ⟨p, rfl, _⟩
    · exact ⟨_, rfl⟩
    · exact ⟨_, rfl⟩
  clear h
  refine (callsIn_wide (n := 0)).1 ?_
  refine callsIn_of_wp_marks Try.func6 rfl trivial ?_ rfl
  simp only [Try.ntmps6, List.size_toArray, List.length_cons, List.length_nil, Nat.reduceAdd, Nat.reduceSub, Array.replicate_succ, Array.replicate_zero, List.push_toArray, List.append_toArray, List.nil_append, List.cons_append]
  gi_wp2_with fail
  refine ⟨trivial, rfl, (callsIn_wide.2 (putI_none HN.out x)).mono ?_⟩
  rintro e w1 ⟨rfl, rfl⟩
  gi_wp2_with fail
  refine ⟨trivial, rfl, (callsIn_wide.2 (atI_none HN.out i)).mono ?_⟩
  rintro e w2 ⟨rfl, rfl⟩
  gi_wp2_with fail
  refine ⟨trivial, rfl, (callsIn_wide.2 (clearI_none HN.out)).mono ?_⟩
  rintro e w3 ⟨rfl, hn3, hs3, hk3⟩
  have H3 : Hid (NoRg (.pointer ov) w3 ∧ Below B w2 w3) := by
    refine ⟨hn3, ?_⟩
    rcases HN.out with e | ⟨p, e, _⟩
    · rw [hs3 e]; exact Below.refl _ _
    · exact (hk3 p e).below hB (fun k e' => by rw [e']; exact hv p e)
  clear hn3 hs3 hk3 HN
  have H4 : Hid (NoRg (.pointer ov) (w3.alloc (.cells #[.int .i64 0] 3)) ∧ Below B w2 (w3.alloc (.cells #[.int .i64 0] 3)) ∧ (w3.alloc (.cells #[.int .i64 0] 3)).heap[w3.heap.size]? = some (.cells #[.int .i64 0] 3 (0, 0)) ∧ B ≤ w3.heap.size) := by
    have hs := H3.out.2.size
    exact ⟨H3.out.1.below ((Below.refl _ _).alloc (Nat.le_refl _) _), H3.out.2.alloc (by omega) _, heap_alloc_new _ _, by omega⟩
  clear H3
  gi_wp2_with fail
  refine ⟨trivial, rfl, (callsIn_wide.2 (allI_none H4.out.1)).mono ?_⟩
  rintro e w5 ⟨rfl, hr5, hb5⟩
  have HI : Hid (Idl w2 B w3.heap.size ov (fun k => k = w3.heap.size + 1) w5 ∧ IsRg 42 w5 (w3.heap.size + 1) 0 [] ∧ w3.heap.size + 1 < w5.heap.size) := by
    have e1 : (w3.alloc (.cells #[.int .i64 0] 3)).heap.size = w3.heap.size + 1 := by simp
    rw [e1] at hr5 hb5
    have hBs := H4.out.2.2.2
    refine ⟨⟨(hb5.block _ (by omega)).trans H4.out.2.2.1, by omega, H4.out.1.below (by rw [e1]; exact hb5), fun p e => ?_, H4.out.2.1.trans (hb5.mono (by omega)), fun k e => by omega, hB⟩, hr5, hr5.lt⟩
    rcases H4.out.1 with e' | ⟨q, e', hr⟩
    · rw [e] at e'; cases e'
    · rw [e] at e'; cases e'; have := hr.lt; omega
  have e1 : (w3.alloc (.cells #[.int .i64 0] 3)).heap.size = w3.heap.size + 1 := by simp
  rw [e1]
  clear hr5 hb5 e1 H4
  generalize w3.heap.size = b9 at *
  have hl5 := HI.out.2.2
  gi_wp2_with fail
  refine range_R (gf := 23) (lb := #[.pointer (some ⟨b9 + 1, 0, none⟩)]) rfl (enters_of Try.func23 (by kernel_rfl) rfl)
    (all1_seq (b9 + 1) 0 [] w5 HI.out.2.1) (fun _ => rfl)
    (fun k hk => by omega)
    (fun pre x Wb W l r o h hl => h)
    (fun D pre W => Idl w2 B b9 ov D W)
    (fun c D pre W => False)
    (fun D D' s W W' h hk hD => h.stays hk hD)
    (fun c D D' s W W' h hk hD => h)
    HI.out.1
    ?a1 ?assign ?body ?done ?stop
  case assign =>
    intro l x W K hK
    simp only [allEnc]
    gi_wp2
    exact hK
  case body =>
    rintro l D pre x Wb W hl' hrec hDl hsub hL hk ⟨_, hlt⟩
    simp at hlt
  case done =>
    rintro d D ks W hd hDd hS hL hK
    have hc9 := cell_of_row W _ 0 _ _ _ hL.box
    have HLn : Hid _ := lenI_none hL.no
    have HE : Hid (Below B w2 (W.putObj d (.deferred none)) ∧ W.heap[d]? = some (.deferred (some []))) := ⟨hL.bel.trans ((kept_putObj W d _).below (Nat.le_trans hL.hB hL.bel.size) (fun k e => by rw [e]; exact hL.dB d hDd)), hK⟩
    clear hL hK HI
    gi_wp2_with fail
    refine ⟨trivial, rfl, (callsIn_wide.2 HLn.out).mono ?_⟩
    rintro e W7 ⟨rfl, rfl⟩
    gi_wp2_with fail
    show LeavesInM _ _ _ _ _ _ _ .returning _
    refine ⟨by simp, .inl ⟨_, _, rfl, run_takeDeferred HE.out.2, ?_⟩⟩
    refine ⟨.bool true, ?_, rfl, HE.out.1⟩
    have hres : Try.f6.results = #[.tmp 6] := by kernel_rfl
    simp only [results, hres]
    go_simp
  case stop =>
    rintro d D c pre W _ _ _ h _
    exact h.elim

end Go.Proofs.Ytnnphmeocoijkaa
