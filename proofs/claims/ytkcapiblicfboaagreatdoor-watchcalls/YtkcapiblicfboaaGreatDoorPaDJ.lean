/- What path's names and nameFault answer. -/
import Derived.Test.YtkcapiblicfboaaGreatDoorPaCJ
import Derived.Scope
namespace Go.Proofs.YtkcapiblicfboaaGreatDoor
open Go.RowKit Go.Shelf
set_option maxRecDepth 8000
attribute [local go_sem] Oper.semAt_some

theorem names_any (s : ByteArray) (w : World) : Calls Tryz.prog 108 #[.string s] w fun e w' => e = .returned (.func (.func 114) #[] #[.pointer (some ⟨w.heap.size, 0, none⟩)]) ∧ w' = w.alloc (.cells #[.string s] 9) := by
  have hmf : ∀ (fn : Fn) (first cap : Array Value) (w : World), (Instr.makeFunc fn first cap).run Tryz.prog w = .ok (.func fn first cap) w := fun _ _ _ _ => rfl
  go_enter Tryz.func108, Tryz.ntmps108
  go_wp2
  go_ret
  exact ⟨rfl, rfl⟩

/-- What lay below B0 lies as it lay; what the iterator changes lies beyond. -/
def Mine (B0 : Nat) (w : World) (D0 D : Blocks) (W : World) : Prop := B0 ≤ w.heap.size ∧ Below B0 w W ∧ ∀ k, D k → ¬ D0 k → B0 ≤ k

theorem Mine.stays {B0 : Nat} {w : World} {D0 D D' : Blocks} {W W' : World} (h : Mine B0 w D0 D W) (hk : Kept W W' (fun k => D k ∧ ¬ D0 k)) (hD : ∀ k, D' k → D k ∨ (W.heap.size ≤ k ∧ k < W'.heap.size)) : Mine B0 w D0 D' W' := by
  obtain ⟨h0, h1, h2⟩ := h
  refine ⟨h0, h1.trans ⟨hk.os, hk.tape, hk.output, hk.size, fun k hlt => hk.block k (by have := h1.size; omega) (fun hd => by have := h2 k hd.1 hd.2; omega)⟩, fun k hd hn => ?_⟩
  rcases hD k hd with h | h
  · exact h2 k h hn
  · have := h1.size; omega

theorem keep_new {D D' : Blocks} {W W' : World} {B : Nat} {o : Obj} (hB : W.heap[B]? = some o) (hn : ¬ D B) (hD : ∀ k, D' k → D k ∨ (W.heap.size ≤ k ∧ k < W'.heap.size)) : ¬ D' B := fun h => by
  have := lt_of_block hB
  rcases hD B h with h | h
  · exact hn h
  · omega

/-- The first fault of a name's shape, behind some that have none. -/
theorem firstF_app {g : Bs → Option Nat} : ∀ (pre : List (Nat × Bs)) (x : Nat × Bs) (t : List (Nat × Bs)), (∀ y ∈ pre, g y.2 = none) → firstF g (pre ++ x :: t) = match g x.2 with | some k => some (x.1 + k) | none => firstF g t
  | [], x, t, _ => rfl
  | y :: pre, x, t, h => by
    rw [List.cons_append, firstF, h y (by simp)]
    exact firstF_app pre x t (fun z hz => h z (by simp [hz]))

theorem firstF_all {g : Bs → Option Nat} : ∀ (l : List (Nat × Bs)), (∀ y ∈ l, g y.2 = none) → firstF g l = none
  | [], _ => rfl
  | y :: l, h => by rw [firstF, h y (by simp)]; exact firstF_all l (fun z hz => h z (by simp [hz]))

theorem dots_end {l : Bs} (h2 : l.length ≤ 2) (h : ∀ j, j < l.length → l.getD j 0 = 46) : nf l = some 0 := by
  unfold nf
  rw [if_neg (by omega), if_pos]
  match l, h2, h with
  | [], _, _ => exact .inl rfl
  | [a], _, h => have := h 0 (by simp); simp at this; subst this; exact .inr (.inl rfl)
  | [a, b], _, h =>
    have h0 := h 0 (by simp)
    have h1 := h 1 (by simp)
    simp at h0 h1
    subst h0; subst h1
    exact .inr (.inr rfl)
  | a :: b :: c :: t, h2, _ => simp at h2

theorem dots_cont {l : Bs} (h24 : l.length ≤ 24) (i : Nat) (hi : i < l.length) (h : l.getD i 0 ≠ 46 ∨ 2 ≤ i) : nf l = none := by
  unfold nf
  rw [if_neg (by omega), if_neg]
  rintro (rfl | rfl | rfl)
  · simp at hi
  · simp at hi; subst hi; simp at h
  · simp at hi
    rcases h with h | h
    · have : i = 0 ∨ i = 1 := by omega
      rcases this with rfl | rfl <;> simp at h
    · omega

theorem slots_le : ∀ (l : Bs) (k : Nat) (x : Nat × Bs), x ∈ slots l k → x.1 ≤ k + l.length
  | [], _, _, h => by simp [slots] at h
  | b :: r, k, x, h => by
    have ih := slots_le r (k + 1) x
    simp only [slots] at h
    split at h
    · simp only [List.mem_cons] at h
      rcases h with rfl | h
      · simp
      · have := ih h; simp; omega
    · have := ih h; simp; omega

theorem nf_long {l : Bs} (h : 24 < l.length) : nf l = some 24 := by unfold nf; rw [if_pos h]

set_option maxHeartbeats 1000000 in
theorem nameFault_any (s : ByteArray) (w : World) (hl : s.size ≤ 4294967296) :
    Calls Tryz.prog 97 #[.string s] w fun e w' => e = .returned (.int .i64 (plc (firstF nf (slots s.data.toList 0)))) ∧ Below w.heap.size w w' := by
  have HL : Hid (s.size ≤ 4294967296) := hl
  refine (callsIn_wide (n := 0)).1 ?_
  refine callsIn_of_wp_marks Tryz.func97 rfl trivial ?_ rfl
  simp only [Tryz.ntmps97, List.size_toArray, List.length_cons, List.length_nil, Nat.reduceAdd, Nat.reduceSub, Array.replicate_succ, Array.replicate_zero, List.push_toArray, List.append_toArray, List.nil_append, List.cons_append]
  gi_wp2_with fail
  refine wpIn_wide.2 (wp_scope_straight ?_)
  refine (wpIn_wide (n := 0)).1 ?_
  gi_wp2_with fail
  refine wpIn_label ?_
  gi_wp2_with fail
  refine ⟨trivial, rfl, (callsIn_wide.2 (names_any _ _)).mono ?_⟩
  rintro e w1 ⟨rfl, rfl⟩
  gi_wp2_with fail
  obtain ⟨W0, hW0⟩ : ∃ W0, (w.alloc (.cells #[.int .i64 0] 3)).alloc (.cells #[.string s] 9) = W0 := ⟨_, rfl⟩
  have b0 : W0.heap[w.heap.size]? = some (.cells #[.int .i64 0] 3 (0, 0)) := by
    rw [← hW0, Below.heap_alloc _ _ _ (by simp)]; exact heap_alloc_new _ _
  have b1 : W0.heap[w.heap.size + 1]? = some (.cells #[.string s] 9 (0, 0)) := by
    rw [← hW0]; have := heap_alloc_new (w.alloc (.cells #[.int .i64 0] 3)) (.cells #[.string s] 9); rwa [World.size_alloc] at this
  have B0 : Below w.heap.size w W0 := by rw [← hW0]; exact ((Below.refl _ w).alloc (Nat.le_refl _) _).alloc (by simp) _
  have z0 : W0.heap.size = w.heap.size + 2 := by rw [← hW0]; simp
  rw [hW0]
  clear hW0
  refine range_R (gf := 114) (lb := #[.pointer (some ⟨w.heap.size + 1, 0, none⟩)]) rfl (enters_of Tryz.func114 (by kernel_rfl) rfl)
    (names1_seq (w.heap.size + 1) s W0 b1 hl) (fun _ => rfl)
    (fun k hk => by omega)
    (fun pre x Wb W l r o h hl => h)
    (fun D pre W => W.heap[w.heap.size]? = some (.cells #[.int .i64 0] 3 (0, 0)) ∧ ¬ D w.heap.size ∧ Mine w.heap.size w (fun k => k = w.heap.size + 1) D W ∧ ∀ y ∈ pre, nf y.2 = none)
    (fun c D pre W => c = .ret ∧ W.heap[w.heap.size]? = some (.cells #[.int .i64 (plc (firstF nf (slots s.data.toList 0)))] 3 (0, 0)) ∧ ¬ D w.heap.size ∧ Mine w.heap.size w (fun k => k = w.heap.size + 1) D W)
    (fun D D' s W W' h hk hD => ⟨hk.heap h.1 (fun hd => h.2.1 hd.1), keep_new h.1 h.2.1 hD, h.2.2.1.stays hk hD, h.2.2.2⟩)
    (fun c D D' s W W' h hk hD => ⟨h.1, hk.heap h.2.1 (fun hd => h.2.2.1 hd.1), keep_new h.2.1 h.2.2.1 hD, h.2.2.2.stays hk hD⟩)
    ⟨b0, fun h => by omega, ⟨Nat.le_refl _, B0, fun k hk hn => absurd hk hn⟩, fun y hy => by simp at hy⟩
    (fun x => { tmps := #[.string s, undef, .pointer (some ⟨w.heap.size, 0, none⟩), .int .i64 (x.1 : Int), bytesV x.2, undef, .string s, .func (.func 114) #[] #[.pointer (some ⟨w.heap.size + 1, 0, none⟩)], .int .i64 (x.1 : Int), bytesV x.2, undef, undef, undef, undef, undef, undef, undef, undef, undef, undef, undef, undef, undef, undef, undef, undef, undef, undef, undef], defers := [] }) ?assign ?body ?done ?stop
  case assign =>
    intro l x W K hK
    simp only [slotEnc]
    gi_wp2
    exact hK
  case body =>
    rintro l D pre x Wb W hl' hrec hDl hsub ⟨hbx, hnD, hm, hnf⟩ hk ⟨t, hst⟩
    have hbW : W.heap[w.heap.size]? = some (.cells #[.int .i64 0] 3 (0, 0)) := hk.heap hbx (fun hd => hnD hd.1)
    have hcell : W.cell? ⟨w.heap.size, 0, none⟩ = some (.int .i64 0) := cell_of_row W w.heap.size 0 _ _ _ hbW
    have hfro : W.frozen? ⟨w.heap.size, 0, none⟩ = false := frozen_of_row W w.heap.size 0 _ _ hbW
    have hx1 : x.1 ≤ 4294967297 := by
      have := slots_le s.data.toList 0 x (by rw [hst]; simp)
      rw [← size_list] at this
      omega
    have hff := firstF_app pre x t hnf
    rw [← hst] at hff
    have HSt : Hid (∀ v, v = plc (firstF nf (slots s.data.toList 0)) → Kept W (W.setCell ⟨w.heap.size, 0, none⟩ (.int .i64 v)) (fun k => ¬ D k) ∧ (W.setCell ⟨w.heap.size, 0, none⟩ (.int .i64 v)).heap[w.heap.size]? = some (.cells #[.int .i64 (plc (firstF nf (slots s.data.toList 0)))] 3 (0, 0)) ∧ ¬ D w.heap.size ∧ Mine w.heap.size w (fun k => k = w.heap.size + 1) D (W.setCell ⟨w.heap.size, 0, none⟩ (.int .i64 v))) := by
      rintro v rfl
      have hm2 := hm.stays hk (fun k hk' => .inl hk')
      exact ⟨(Kept.refl W _).setCell ⟨w.heap.size, 0, none⟩ _ (fun _ => hnD), Boxed.set _ hbW, hnD, hm2.1, hm2.2.1.setCell (p := ⟨w.heap.size, 0, none⟩) (Nat.le_refl _) _, hm2.2.2⟩
    have HG : Hid (nf x.2 = none → Kept W W (fun k => ¬ D k) ∧ W.heap[w.heap.size]? = some (.cells #[.int .i64 0] 3 (0, 0)) ∧ ¬ D w.heap.size ∧ Mine w.heap.size w (fun k => k = w.heap.size + 1) D W ∧ ∀ y ∈ pre ++ [x], nf y.2 = none) := by
      intro hx
      refine ⟨Kept.refl W _, hbW, hnD, hm.stays hk (fun k hk' => .inl hk'), fun y hy => ?_⟩
      rcases List.mem_append.1 hy with h | h
      · exact hnf y h
      · simp at h; subst h; exact hx
    obtain ⟨nm, hnm⟩ : ∃ nm : ByteArray, nm = ⟨x.2.toArray⟩ := ⟨_, rfl⟩
    have hnl : nm.data.toList = x.2 := by rw [hnm]
    have hsz : nm.size = x.2.length := by rw [size_list, hnl]
    have hbv : bytesV x.2 = .string nm := by rw [hnm]
    rw [hbv]
    have HF : Hid (firstF nf (slots s.data.toList 0) = match nf x.2 with | some k => some (x.1 + k) | none => firstF nf t) := hff
    have HN : Hid (nm.data.toList = x.2 ∧ nm.size = x.2.length) := ⟨hnl, hsz⟩
    clear hnm hnl hsz hbv hff hbW hbx hm hnf hst hk hsub hDl hrec hnD
    by_cases h24 : 24 < nm.size
    · have e1 : Hid ((x.1 : Int) + 24 = plc (firstF nf (slots s.data.toList 0))) := by
        show _ = _
        rw [HF.out, nf_long (by have := HN.out.2; omega)]
        simp [plc]
      gi_wp2
      exact ⟨(HSt.out _ e1.out).1, rfl, (HSt.out _ e1.out).2⟩
    · gi_wp2
      gi_loopw [17] (fun v wr => ∃ i : Nat, v = .int .i64 (i : Int) ∧ wr = W ∧ i ≤ nm.size ∧ i ≤ 2 ∧ Hid (∀ j, j < i → x.2.getD j 0 = 46)) (fun v _ => nm.size - (intOf v).toNat)
      case atStart => exact ⟨0, rfl, rfl, Nat.zero_le _, by omega, fun j hj => by omega⟩
      case round =>
        obtain ⟨i, rfl, rfl, hi, h2, HD⟩ := hrel
        by_cases hlt : i < nm.size
        · have hby := byte_at nm i hlt
          rw [HN.out.1] at hby
          by_cases h46 : nm[i] = 46
          · have hnat : ((nm[i].toNat : Int) == 46) = true := by rw [h46]; rfl
            have HX : Hid (x.2.getD i 0 = 46) := by show _ = _; rw [← hby, h46]
            clear hby h46
            by_cases hi2 : i < 2
            · gi_wp2
              go_roundw
              case rel => exact ⟨i + 1, by simp, by first | rfl | trivial, by omega, by omega, fun j hj => by
                by_cases e : j = i
                · subst e; exact HX.out
                · exact HD.out j (by omega)⟩
              case measure => simp [intOf]; omega
            · have hg := HG.out (dots_cont (by have := HN.out.2; omega) i (by have := HN.out.2; omega) (.inr (by omega)))
              have HGG : Hid _ := hg
              clear hg
              gi_wp2
              exact HGG.out
          · have hnat : ((nm[i].toNat : Int) == 46) = false := by
              rw [beq_eq_false_iff_ne]
              intro e
              exact h46 (UInt8.toNat_inj.1 (by show nm[i].toNat = 46; omega))
            have hg := HG.out (dots_cont (by have := HN.out.2; omega) i (by have := HN.out.2; omega) (.inl (by rw [← hby]; exact h46)))
            have HGG : Hid _ := hg
            clear hg hby h46
            gi_wp2
            exact HGG.out
        · have e1 : Hid ((x.1 : Int) = plc (firstF nf (slots s.data.toList 0))) := by
            show _ = _
            have hz := HN.out.2
            rw [HF.out, dots_end (by omega) (fun j hj => HD.out j (by omega))]
            simp [plc]
          gi_wp2
          exact ⟨(HSt.out _ e1.out).1, rfl, (HSt.out _ e1.out).2⟩
  case done =>
    rintro d D ys W hd _ hS ⟨hbx, _, hm, hnf⟩ hK
    have hcell : W.cell? ⟨w.heap.size, 0, none⟩ = some (.int .i64 0) := cell_of_row W w.heap.size 0 _ _ _ hbx
    have hfro : W.frozen? ⟨w.heap.size, 0, none⟩ = false := frozen_of_row W w.heap.size 0 _ _ hbx
    obtain ⟨X, hX⟩ : ∃ X, X = W.setCell ⟨w.heap.size, 0, none⟩ (.int .i64 9223372036854775807) := ⟨_, rfl⟩
    have kX : Kept W X (· = w.heap.size) := by rw [hX]; exact (Kept.refl W (· = w.heap.size)).setCell ⟨w.heap.size, 0, none⟩ _ (fun _ => rfl)
    have dX : X.heap[d]? = some (.deferred (some [])) := kX.heap hK (fun e => by omega)
    have xb : X.heap[w.heap.size]? = some (.cells #[.int .i64 9223372036854775807] 3 (0, 0)) := by rw [hX]; exact Boxed.set _ hbx
    have yb : (X.putObj d (.deferred none)).heap[w.heap.size]? = some (.cells #[.int .i64 9223372036854775807] 3 (0, 0)) := by rw [World.putObj_heap_other (by omega)]; exact xb
    have y0 : (X.putObj d (.deferred none)).cell? ⟨w.heap.size, 0, none⟩ = some (.int .i64 9223372036854775807) := cell_of_row _ w.heap.size 0 _ _ _ yb
    have HE : Hid (plc (firstF nf (slots s.data.toList 0)) = 9223372036854775807 ∧ Below w.heap.size w (X.putObj d (.deferred none))) := by
      refine ⟨?_, hm.2.1.trans (((kX.mono (fun k _ e => .inl e)).trans (kept_putObj X d _) (fun k _ e => .inr e) : Kept W _ (fun k => k = w.heap.size ∨ k = d)).below hm.2.1.size (fun k e => by rcases e with rfl | rfl; exact Nat.le_refl _; omega))⟩
      rw [← hS, firstF_all ys hnf]; rfl
    have HX : Hid (X = W.setCell ⟨w.heap.size, 0, none⟩ (.int .i64 9223372036854775807) ∧ X.heap[d]? = some (.deferred (some []))) := ⟨hX, dX⟩
    clear hbx hm hnf hK hS kX dX xb yb hX b0 b1 B0
    gi_wp2
    rw [← HX.out.1]
    show bodyPostM _ _ _ _ _ .ret _ _
    refine ⟨by simp, .inl ⟨_, _, rfl, run_takeDeferred HX.out.2, ?_⟩⟩
    refine ⟨.int .i64 9223372036854775807, ?_, by rw [HE.out.1], HE.out.2⟩
    have hres : Tryz.f97.results = #[.cell 2 3] := by kernel_rfl
    simp only [results, hres]
    go_simp
  case stop =>
    rintro d D c pre W hd _ _ ⟨rfl, hbx, hnD, hm⟩ hK
    obtain ⟨v, hv⟩ : ∃ v, v = plc (firstF nf (slots s.data.toList 0)) := ⟨_, rfl⟩
    rw [← hv] at hbx
    have HV : Hid (v = plc (firstF nf (slots s.data.toList 0))) := hv
    clear hv
    have yb : (W.putObj d (.deferred none)).heap[w.heap.size]? = some (.cells #[.int .i64 v] 3 (0, 0)) := by rw [World.putObj_heap_other (by omega)]; exact hbx
    have y0 : (W.putObj d (.deferred none)).cell? ⟨w.heap.size, 0, none⟩ = some (.int .i64 v) := cell_of_row _ w.heap.size 0 _ _ _ yb
    gi_wp2
    show bodyPostM _ _ _ _ _ .ret _ _
    refine ⟨by simp, .inl ⟨_, _, rfl, run_takeDeferred hK, ?_⟩⟩
    refine ⟨.int .i64 v, ?_, by rw [HV.out], hm.2.1.trans ((kept_putObj W d _).below hm.2.1.size (fun k e => by subst e; omega))⟩
    have hres : Tryz.f97.results = #[.cell 2 3] := by kernel_rfl
    simp only [results, hres]
    go_simp

end Go.Proofs.YtkcapiblicfboaaGreatDoor
