/- PathAbove of the statements of layer 5: the walk. -/
import Derived.Test.YtgaemldkpfbomaaPbG
import Derived.Test.YtgaemldkpfbomaaPaV
import Derived.Test.YtgaemldkpfbomaaPaS
namespace Go.Proofs.Ytgaemldkpfbomaa
open Go.RowKit Go.Shelf
set_option maxRecDepth 8000
attribute [local go_sem] Oper.semAt_some

/-- What the two loops of the law leave as it is: the bound, the answer, the list that the document gives, the text. -/
structure FixT (E R Wn c0 n2 n3 : Nat) (a : Int) (want : Value) (xs : List Bs) (p : ByteArray) (D : Blocks) (V : World) : Prop where
  fE : V.heap[E]? = some (.cells #[.int .i64 a] 3 (0, 0))
  fR : V.heap[R]? = some (.cells #[.bool false] 4 (0, 0))
  fW : V.heap[Wn]? = some (.cells #[want] 28 (0, 0))
  fC : V.heap[c0]? = some (.cells #[.string p] 9 (0, 0))
  row : V.ownsRow n2 9 1 want xs.length (xs.map bytesV)
  lt : ∀ k, want.ownBlock = some k → k < n3
  dE : ¬ D E
  dR : ¬ D R
  dW : ¬ D Wn
  dv : ∀ k, want.ownBlock = some k → ¬ D k

theorem FixT.stays {E R Wn c0 n2 n3 : Nat} {a : Int} {want : Value} {xs : List Bs} {p : ByteArray} {D D' : Blocks} {V V' : World} (h : FixT E R Wn c0 n2 n3 a want xs p D V) (hk : Kept V V' (fun k => D k ∧ ¬ k = c0)) (hD : ∀ k, D' k → D k ∨ (V.heap.size ≤ k ∧ k < V'.heap.size)) : FixT E R Wn c0 n2 n3 a want xs p D' V' := {
  fE := hk.heap h.fE (fun hd => h.dE hd.1)
  fR := hk.heap h.fR (fun hd => h.dR hd.1)
  fW := hk.heap h.fW (fun hd => h.dW hd.1)
  fC := hk.heap h.fC (fun hd => hd.2 rfl)
  row := row_kept h.row hk (fun k e hd => h.dv k e hd.1)
  lt := h.lt
  dE := keep_new h.fE h.dE hD
  dR := keep_new h.fR h.dR hD
  dW := keep_new h.fW h.dW hD
  dv := fun k e => by
    obtain ⟨⟨cs, hc⟩, _⟩ := row_at h.row e
    exact keep_new hc (h.dv k e) hD }

/-- Another list grows: what is fixed stays. -/
theorem FixT.grow {E R Wn c0 n2 n3 L : Nat} {a : Int} {want v : Value} {xs pre : List Bs} {p : ByteArray} {D : Blocks} {V V' : World} (h : FixT E R Wn c0 n2 n3 a want xs p D V) (hG : GathT n3 L D pre v V) (hc0 : D c0) (hE : E < n3) (hR : R < n3) (hW : Wn ≠ L) (hL : n3 ≤ L) (hk : Kept V V' (fun k => k = L ∨ v.ownBlock = some k)) : FixT E R Wn c0 n2 n3 a want xs p D V' := {
  fE := hk.heap h.fE (fun hd => by
    rcases hd with hd | hd
    · omega
    · have := (row_at hG.row hd).2.1; omega)
  fR := hk.heap h.fR (fun hd => by
    rcases hd with hd | hd
    · omega
    · have := (row_at hG.row hd).2.1; omega)
  fW := hk.heap h.fW (fun hd => by
    rcases hd with hd | hd
    · exact hW hd
    · obtain ⟨⟨cs, h1⟩, _⟩ := row_at hG.row hd
      exact ne_ty h1 h.fW (by decide) rfl)
  fC := hk.heap h.fC (fun hd => by
    rcases hd with hd | hd
    · rw [hd] at hc0; exact hG.dB hc0
    · exact hG.dv c0 hd hc0)
  row := row_kept h.row hk (fun k e hd => by
    have := h.lt k e
    rcases hd with hd | hd
    · omega
    · have := (row_at hG.row hd).2.1; omega)
  lt := h.lt
  dE := h.dE
  dR := h.dR
  dW := h.dW
  dv := h.dv }

theorem run_upto (ao : Option Addr) (l cap n : Nat) (h : n ≤ cap) (_hc : cap ≤ 9223372036854775807) (w : World) : (Instr.slice 28 (.slice ao l cap) none (some (.int .i64 (n : Int))) none).run Try.prog w = .ok (.slice ao n cap) w := by
  have ht : Try.prog.underlying 28 = some (.slice (Try.prog.elem 28)) := by kernel_rfl
  have hs : ∀ w, (sizeOf (Try.prog.elem 28)).run Try.prog w = .ok 1 w := fun w => by kernel_rfl
  rw [run_slice_h w 28 ao l cap ht .i64 (n : Int) (by omega) (by omega), hs]
  simp [Result.andThen, sliced]
  intro _
  cases ao with
  | none => rfl
  | some x => simp [Addr.add]

theorem row_take {w : World} {base : Nat} {v : Value} {xs : List Bs} {ao : Option Addr} {c : Nat} (h : w.ownsRow base 9 1 v xs.length (xs.map bytesV)) (hv : v = .slice ao xs.length c) (n : Nat) (hn : n ≤ xs.length) : w.ownsRow base 9 1 (.slice ao n c) (xs.take n).length ((xs.take n).map bytesV) := by
  subst hv
  have hl : (xs.take n).length = n := by simp; omega
  refine ⟨by simp, ?_⟩
  rw [hl]
  rcases h.2 with ⟨e, h0⟩ | ⟨g, cap, cur, e, h1, h2, h3, h4, h5, h6⟩
  · simp only [Value.slice.injEq] at e
    obtain ⟨rfl, _, rfl⟩ := e
    have : n = 0 := by omega
    subst this
    exact .inl ⟨rfl, rfl⟩
  · simp only [Value.slice.injEq] at e
    obtain ⟨rfl, _, rfl⟩ := e
    refine .inr ⟨g, c, cur, rfl, h1, h2, by omega, h4, h5, ?_⟩
    have := congrArg (List.take n) h6
    rw [List.take_take, Nat.min_eq_left (by omega), ← List.map_take] at this
    rw [Nat.mul_one]
    exact this

set_option maxHeartbeats 1000000 in
theorem pathAbove_main (p : ByteArray) (a : Int) (ha : 0 ≤ a) (ha2 : a ≤ 9223372036854775807) (hp : ¬ 2147483632 ≤ p.size) (w : World) :
    Calls Try.prog 5 #[.string p, .int .i64 a] w fun e w' => e = .returned (.bool true) ∧ Below w.heap.size w w' := by
  have hnil : ∀ (g : Nat) (cs : Array Value) (w : World), (binOp BinOp.eql 33 (.func (.func g) #[] cs) .nilFunc).run Try.prog w = .ok (.bool false) w := fun _ _ _ => by kernel_rfl
  have hd := decide_eq_false hp
  refine (callsIn_wide (n := 0)).1 ?_
  refine callsIn_of_wp_marks Try.func5 rfl trivial ?_ rfl
  simp only [Try.ntmps5, List.size_toArray, List.length_cons, List.length_nil, Nat.reduceAdd, Nat.reduceSub, Array.replicate_succ, Array.replicate_zero, List.push_toArray, List.append_toArray, List.nil_append, List.cons_append]
  gi_wp2_with fail
  refine ⟨trivial, rfl, (callsIn_wide.2 (long_any _ _)).mono ?_⟩
  rintro e w1 ⟨rfl, rfl⟩
  rw [hd]
  gi_wp2_with fail
  refine ⟨trivial, rfl, (callsIn_wide.2 (lives_any _)).mono ?_⟩
  rintro e w2 ⟨rfl, k2⟩
  gi_wp2_with fail
  refine ⟨trivial, rfl, (callsIn_wide.2 (aboveR_any p _ (by omega))).mono ?_⟩
  rintro e w3 ⟨v3, rfl, hr3, k3⟩
  obtain ⟨a3, c3, rfl⟩ := row_shape hr3
  gi_wp2_with fail
  refine ⟨trivial, rfl, (callsIn_wide.2 (above_any _ _)).mono ?_⟩
  rintro e w4 ⟨rfl, rfl⟩
  gi_wp2_with fail
  have hdec : decide (a < 0) = false := by rw [decide_eq_false_iff_not]; omega
  rw [hdec]
  clear hdec hnil
  rename_i K hK
  have z2 : w.heap.size + 2 ≤ w2.heap.size := by have := k2.size; simp only [World.size_alloc] at this; omega
  have z3 : w2.heap.size ≤ w3.heap.size := k3.size
  obtain ⟨W0, hW0⟩ : ∃ W0, ((w3.alloc (.cells #[.slice a3 (abv p.data.toList).length c3] 28)).alloc (.cells #[.string p] 9)).alloc (.cells #[.slice none 0 0] 28) = W0 := ⟨_, rfl⟩
  have old : ∀ k, k < w3.heap.size → W0.heap[k]? = w3.heap[k]? := fun k hk => by
    rw [← hW0, Below.heap_alloc _ _ _ (by simp; omega), Below.heap_alloc _ _ _ (by simp; omega), Below.heap_alloc _ _ _ hk]
  have e0 : w3.heap[w.heap.size]? = some (.cells #[.int .i64 a] 3 (0, 0)) := by
    rw [k3.block _ (by omega), k2.block _ (by simp only [World.size_alloc]; omega), Below.heap_alloc _ _ _ (by simp)]; exact heap_alloc_new _ _
  have e1 : w3.heap[w.heap.size + 1]? = some (.cells #[.bool false] 4 (0, 0)) := by
    rw [k3.block _ (by omega), k2.block _ (by simp only [World.size_alloc]; omega)]
    have := heap_alloc_new (w.alloc (.cells #[.int .i64 a] 3)) (.cells #[.bool false] 4); rwa [World.size_alloc] at this
  have f0 : W0.heap[w3.heap.size]? = some (.cells #[.slice a3 (abv p.data.toList).length c3] 28 (0, 0)) := by
    rw [← hW0, Below.heap_alloc _ _ _ (by simp; omega), Below.heap_alloc _ _ _ (by simp)]; exact heap_alloc_new _ _
  have f1 : W0.heap[w3.heap.size + 1]? = some (.cells #[.string p] 9 (0, 0)) := by
    rw [← hW0, Below.heap_alloc _ _ _ (by simp)]
    have := heap_alloc_new (w3.alloc (.cells #[.slice a3 (abv p.data.toList).length c3] 28)) (.cells #[.string p] 9); rwa [World.size_alloc] at this
  have f2 : W0.heap[w3.heap.size + 1 + 1]? = some (.cells #[.slice none 0 0] 28 (0, 0)) := by
    rw [← hW0]
    have := heap_alloc_new ((w3.alloc (.cells #[.slice a3 (abv p.data.toList).length c3] 28)).alloc (.cells #[.string p] 9)) (.cells #[.slice none 0 0] 28); rwa [World.size_alloc, World.size_alloc] at this
  have zW : W0.heap.size = w3.heap.size + 3 := by rw [← hW0]; simp
  have bW3 : Below w.heap.size w w3 := by
    have b1 : Below w.heap.size w ((w.alloc (.cells #[.int .i64 a] 3)).alloc (.cells #[.bool false] 4)) := ((Below.refl _ w).alloc (Nat.le_refl _) _).alloc (by simp) _
    have b2 := b1.trans (k2.mono (by simp only [World.size_alloc]; omega))
    exact b2.trans (k3.mono (by omega))
  have bW0 : Below w.heap.size w W0 := by rw [← hW0]; exact ((bW3.alloc (by omega) _).alloc (by simp; omega) _).alloc (by simp; omega) _
  have hrow0 : W0.ownsRow w2.heap.size 9 1 (.slice a3 (abv p.data.toList).length c3) (abv p.data.toList).length ((abv p.data.toList).map bytesV) :=
    row_kept hr3 (S := fun _ => False) ⟨by rw [← hW0]; rfl, by rw [← hW0]; rfl, by rw [← hW0]; rfl, by omega, fun k hk _ => old k hk⟩ (fun _ _ h => h)
  have hlt3 : ∀ k, (Value.slice a3 (abv p.data.toList).length c3).ownBlock = some k → k < w3.heap.size := fun k e => (row_at hr3 e).2.2
  have hFix0 : FixT w.heap.size (w.heap.size + 1) w3.heap.size (w3.heap.size + 1) w2.heap.size w3.heap.size a (.slice a3 (abv p.data.toList).length c3) (abv p.data.toList) p (fun k => k = w3.heap.size + 1) W0 := {
    fE := (old _ (by omega)).trans e0
    fR := (old _ (by omega)).trans e1
    fW := f0
    fC := f1
    row := hrow0
    lt := hlt3
    dE := fun h => by omega
    dR := fun h => by omega
    dW := fun h => by omega
    dv := fun k e h => by have := hlt3 k e; omega }
  have hG0 : GathT w3.heap.size (w3.heap.size + 1 + 1) (fun k => k = w3.heap.size + 1) [] (.slice none 0 0) W0 := { box := f2, row := World.ownsRow_nil _ _ _ _, dB := fun h => by omega, dv := fun k e => by simp [Value.ownBlock] at e, dl := fun k h => by omega }
  have HLn : Hid ((abv p.data.toList).length ≤ 64) := abv_len _ (by rw [← size_list]; omega)
  rw [hW0]
  clear hW0 old e0 e1 f0 f1 f2 hrow0 hr3 k2 k3 hlt3
  have cont : ∀ (d : Nat) (V : World) (D : Blocks) (k : Nat) (v : Value), w3.heap.size + 3 ≤ d → V.heap[d]? = some (.deferred (some [])) → FixT w.heap.size (w.heap.size + 1) w3.heap.size (w3.heap.size + 1) w2.heap.size w3.heap.size a (.slice a3 (abv p.data.toList).length c3) (abv p.data.toList) p D V → GathT w3.heap.size (w3.heap.size + 1 + 1) D ((abv p.data.toList).take k) v V →
      Hid ((k : Int) ≤ a ∧ k ≤ (abv p.data.toList).length ∧ ((k : Int) = a ∨ k = (abv p.data.toList).length)) → Below w.heap.size w V → K { tmps := #[.string p, .int .i64 a, undef, .pointer (some ⟨w.heap.size, 0, none⟩), .pointer (some ⟨w.heap.size + 1, 0, none⟩), .bool true, .pointer (some ⟨w3.heap.size, 0, none⟩), .func (.func 30) #[] #[.pointer (some ⟨w3.heap.size + 1, 0, none⟩)], .pointer (some ⟨w3.heap.size + 1 + 1, 0, none⟩), undef, undef, undef, .string p, .bool false, .bool false, .int .i64 a, .bool false, .bool false, .bool true, .string p, .slice a3 (abv p.data.toList).length c3, .string p, .func (.func 30) #[] #[.pointer (some ⟨w3.heap.size + 1, 0, none⟩)], .func (.func 30) #[] #[.pointer (some ⟨w3.heap.size + 1, 0, none⟩)], .bool false, .func (.func 30) #[] #[.pointer (some ⟨w3.heap.size + 1, 0, none⟩)], undef, undef, undef, undef, undef, undef, undef, undef, undef, undef, undef, undef, undef, undef, undef, undef, undef, undef, undef, undef, undef, undef, undef, undef, undef, undef, undef, undef, undef, undef, undef, undef, undef, undef, undef, undef, undef, undef, undef], defers := [{ target := .collected d, args := #[] }] } V := by
    intro d V D k v hd hdV hF hG HK hB
    refine hK _ _ ?_
    clear hK hFix0 hG0
    obtain ⟨ao, cp, hv⟩ := row_shape hG.row
    subst hv
    have hkl : ((abv p.data.toList).take k).length = k := by rw [List.length_take]; have := HK.out.2.1; omega
    rw [hkl] at hG
    have hcE : V.cell? ⟨w.heap.size, 0, none⟩ = some (.int .i64 a) := cell_of_row V w.heap.size 0 _ _ _ hF.fE
    have hcW : V.cell? ⟨w3.heap.size, 0, none⟩ = some (.slice a3 (abv p.data.toList).length c3) := cell_of_row V w3.heap.size 0 _ _ _ hF.fW
    have hcL : V.cell? ⟨w3.heap.size + 1 + 1, 0, none⟩ = some (.slice ao k cp) := cell_of_row V (w3.heap.size + 1 + 1) 0 _ _ _ hG.box
    have HF : Hid _ := hF
    have HG : Hid _ := hG
    have HB : Hid _ := hB
    have HdV : Hid _ := hdV
    have HKl : Hid (((abv p.data.toList).take k).length = k) := hkl
    clear hF hG hB hdV hkl
    by_cases hlt : a < ((abv p.data.toList).length : Int)
    · have hka : (k : Int) = a := by
        rcases HK.out.2.2 with h | h
        · exact h
        · have := HK.out.1; omega
      subst hka
      have hk64 : k ≤ (abv p.data.toList).length := HK.out.2.1
      have hl3 := HF.out.row
      have hcap : (abv p.data.toList).length ≤ c3 ∧ c3 ≤ 9223372036854775807 := by
        rcases hl3.2 with ⟨e, h0⟩ | ⟨g, cap, cur, e, _, _, h3, h4, _⟩
        · simp only [Value.slice.injEq] at e
          omega
        · simp only [Value.slice.injEq] at e
          obtain ⟨_, _, rfl⟩ := e
          unfold maxLen at h4
          omega
      have hsl := fun w => run_upto a3 (abv p.data.toList).length c3 k (by omega) (by omega) w
      have HEq : Hid (∀ n, Calls Try.prog 17 #[.slice ao k cp, .slice a3 k c3] (V.drewN n) fun e w' => e = .returned (.bool true) ∧ ∃ m, w' = (V.drewN n).drewN m) := fun n => by
        have hr1 := HG.out.row
        have hr2 := row_take HF.out.row rfl k (by omega)
        exact eqTexts_same (.slice ao k cp) (.slice a3 k c3) ((abv p.data.toList).take k) _ _ (V.drewN n) hr1 hr2
      clear hl3 hcap
      gi_wp2_with fail
      refine wpIn_wide.2 ?_
      go_quiet ((go_at_call 17; exact Calls.quiet_of (HEq.out _)))
      have hfro : V.frozen? ⟨w3.heap.size + 1 + 1, 0, none⟩ = false := frozen_of_row V (w3.heap.size + 1 + 1) 0 _ _ HG.out.box
      gi_wp2_with fail
      obtain ⟨W2, hW2⟩ : ∃ W2, W2 = (V.drewN nq).setCell ⟨w3.heap.size + 1 + 1, 0, none⟩ (.slice none 0 0) := ⟨_, rfl⟩
      have kW2 : Kept V W2 (· = w3.heap.size + 1 + 1) := by
        rw [hW2]
        exact (kept_below (below_drew (Below.refl _ V) nq) _).setCell ⟨w3.heap.size + 1 + 1, 0, none⟩ _ (fun _ => rfl)
      have zW2 := kW2.size
      have hFa := HF.out
      have hFix2 : FixT w.heap.size (w.heap.size + 1) w3.heap.size (w3.heap.size + 1) w2.heap.size w3.heap.size (k : Int) (.slice a3 (abv p.data.toList).length c3) (abv p.data.toList) p (fun k => k = w3.heap.size + 1) W2 := {
        fE := kW2.heap hFa.fE (fun e => by omega)
        fR := kW2.heap hFa.fR (fun e => by omega)
        fW := kW2.heap hFa.fW (fun e => by omega)
        fC := kW2.heap hFa.fC (fun e => by omega)
        row := row_kept hFa.row kW2 (fun k e e' => by have := hFa.lt k e; omega)
        lt := hFa.lt
        dE := fun h => by omega
        dR := fun h => by omega
        dW := fun h => by omega
        dv := fun k e h => by have := hFa.lt k e; omega }
      have hbox2 : W2.heap[w3.heap.size + 1 + 1]? = some (.cells #[.slice none 0 0] 28 (0, 0)) := by
        rw [hW2]; exact Boxed.set _ (show (V.drewN nq).heap[w3.heap.size + 1 + 1]? = _ from HG.out.box)
      have hG2 : GathT w3.heap.size (w3.heap.size + 1 + 1) (fun k => k = w3.heap.size + 1) [] (.slice none 0 0) W2 := { box := hbox2, row := World.ownsRow_nil _ _ _ _, dB := fun h => by omega, dv := fun k e => by simp [Value.ownBlock] at e, dl := fun k h => by have := lt_of_block hFix2.fC; omega }
      have hd2 : W2.heap[d]? = some (.deferred (some [])) := kW2.heap HdV.out (fun e => by omega)
      have hB2 : Below w.heap.size w W2 := HB.out.trans (kW2.below HB.out.size (fun k e => by omega))
      rw [← hW2]
      have hltc := lt_of_block hFix2.fC
      have hltw := lt_of_block hFix2.fW
      clear hW2 kW2 hFa hbox2 HF HG HB HdV HKl HEq hsl hcE hcW hcL hfro
      refine range_R (gf := 30) (lb := #[.pointer (some ⟨w3.heap.size + 1, 0, none⟩)]) rfl (enters_of Try.func30 (by kernel_rfl) rfl)
        (above1_seq (w3.heap.size + 1) p W2 hFix2.fC (by omega)) (fun _ => rfl)
        (fun k hk => by omega)
        (fun pre x Wb W l r o h hl => h)
        (fun D pre U => FixT w.heap.size (w.heap.size + 1) w3.heap.size (w3.heap.size + 1) w2.heap.size w3.heap.size (k : Int) (.slice a3 (abv p.data.toList).length c3) (abv p.data.toList) p D U ∧ Mine w.heap.size w (fun k => k = w3.heap.size + 1) D U ∧ U.heap[d]? = some (.deferred (some [])) ∧ ¬ D d ∧ ∃ v, GathT w3.heap.size (w3.heap.size + 1 + 1) D pre v U)
        (fun _ _ _ _ => False)
        (fun D D' s W W' h hk hD => ⟨h.1.stays hk hD, h.2.1.stays hk hD, hk.heap h.2.2.1 (fun hd => h.2.2.2.1 hd.1), keep_new h.2.2.1 h.2.2.2.1 hD, h.2.2.2.2.choose, h.2.2.2.2.choose_spec.stays hk hD⟩)
        (fun _ _ _ _ _ _ h _ _ => h)
        ⟨hFix2, ⟨Nat.le_refl _, hB2, fun k hk hn => absurd hk hn⟩, hd2, fun h => by omega, _, hG2⟩
        (fun x => { tmps := #[.string p, .int .i64 (k : Nat), undef, .pointer (some ⟨w.heap.size, 0, none⟩), .pointer (some ⟨w.heap.size + 1, 0, none⟩), .bool true, .pointer (some ⟨w3.heap.size, 0, none⟩), .func (.func 30) #[] #[.pointer (some ⟨w3.heap.size + 1, 0, none⟩)], .pointer (some ⟨w3.heap.size + 1 + 1, 0, none⟩), undef, .int .i64 (k : Nat), bytesV x, .string p, .bool false, .bool false, .int .i64 (k : Nat), .bool false, .bool false, .bool true, .string p, .slice a3 (abv p.data.toList).length c3, .string p, .func (.func 30) #[] #[.pointer (some ⟨w3.heap.size + 1, 0, none⟩)], .func (.func 30) #[] #[.pointer (some ⟨w3.heap.size + 1, 0, none⟩)], .bool false, .func (.func 30) #[] #[.pointer (some ⟨w3.heap.size + 1, 0, none⟩)], undef, undef, undef, undef, undef, undef, undef, undef, undef, .slice a3 (abv p.data.toList).length c3, .int .i64 ((abv p.data.toList).length : Nat), .int .i64 (k : Nat), .int .i64 ((abv p.data.toList).length : Nat), .bool true, .int .i64 (k : Nat), .bool true, .bool false, .bool false, .slice ao k cp, .slice a3 (abv p.data.toList).length c3, .int .i64 (k : Nat), .slice a3 k c3, .bool true, .bool false, .bool false, .func (.func 30) #[] #[.pointer (some ⟨w3.heap.size + 1, 0, none⟩)], bytesV x, undef, undef, undef, undef, undef, undef, undef, undef, undef, undef, undef, undef], defers := [] }) ?assign ?body ?done ?stop
      case assign =>
        intro l x W K hK
        simp only [abvEnc]
        gi_wp2
        exact hK
      case body =>
        rintro l D pre x Wb U hl' hrec hDl hsub ⟨hF, hm, hdb, hnd, v, hG⟩ hk ⟨t, hst⟩
        have hF2 := hF.stays hk (fun k hk' => .inl hk')
        have hm2 := hm.stays hk (fun k hk' => .inl hk')
        have hGG := hG.stays hk (fun k hk' => .inl hk')
        have hdU : U.heap[d]? = some (.deferred (some [])) := hk.heap hdb (fun h => hnd h.1)
        have hpl : pre.length ≤ 64 ∧ pre.length < (abv p.data.toList).length := by
          have := HLn.out
          rw [hst] at this ⊢
          simp only [List.length_append, List.length_cons] at this ⊢
          omega
        obtain ⟨av, cv, hv⟩ := row_shape hGG.row
        subst hv
        have hcW : U.cell? ⟨w3.heap.size, 0, none⟩ = some (.slice a3 (abv p.data.toList).length c3) := cell_of_row U w3.heap.size 0 _ _ _ hF2.fW
        have hcL : U.cell? ⟨w3.heap.size + 1 + 1, 0, none⟩ = some (.slice av pre.length cv) := cell_of_row U (w3.heap.size + 1 + 1) 0 _ _ _ hGG.box
        obtain ⟨g1, c1, w1', e1, q1, q2, G5, K5⟩ := gathT_round hGG x (by omega) (by have := lt_of_block hF2.fW; omega) (by omega)
        have hF5 := hF2.grow hGG (hsub _ rfl) (by omega) (by omega) (by omega) (by omega) K5
        have HS : Hid (Kept U (w1'.setCell ⟨w3.heap.size + 1 + 1, 0, none⟩ (.slice (some ⟨g1, 0, none⟩) (pre.length + 1) c1)) (fun k => ¬ D k) ∧ FixT w.heap.size (w.heap.size + 1) w3.heap.size (w3.heap.size + 1) w2.heap.size w3.heap.size (k : Int) (.slice a3 (abv p.data.toList).length c3) (abv p.data.toList) p D (w1'.setCell ⟨w3.heap.size + 1 + 1, 0, none⟩ (.slice (some ⟨g1, 0, none⟩) (pre.length + 1) c1)) ∧ Mine w.heap.size w (fun k => k = w3.heap.size + 1) D (w1'.setCell ⟨w3.heap.size + 1 + 1, 0, none⟩ (.slice (some ⟨g1, 0, none⟩) (pre.length + 1) c1)) ∧ (w1'.setCell ⟨w3.heap.size + 1 + 1, 0, none⟩ (.slice (some ⟨g1, 0, none⟩) (pre.length + 1) c1)).heap[d]? = some (.deferred (some [])) ∧ ¬ D d ∧ ∃ v, GathT w3.heap.size (w3.heap.size + 1 + 1) D (pre ++ [x]) v (w1'.setCell ⟨w3.heap.size + 1 + 1, 0, none⟩ (.slice (some ⟨g1, 0, none⟩) (pre.length + 1) c1))) := by
          refine ⟨K5.mono (fun k _ h => ?_), hF5, ⟨hm2.1, hm2.2.1.trans (K5.below hm2.2.1.size (fun k h => ?_)), hm2.2.2⟩, K5.heap hdU (fun h => ?_), hnd, _, G5⟩
          · rcases h with rfl | h
            · exact hGG.dB
            · exact hGG.dv k h
          · rcases h with rfl | h
            · omega
            · have := (row_at hGG.row h).2.1; omega
          · rcases h with h | h
            · omega
            · obtain ⟨⟨cs, h1⟩, _⟩ := row_at hGG.row h
              rw [h1] at hdU
              cases hdU
        have E1 : Hid _ := e1
        clear e1 G5 K5 hG hGG hF hF2 hF5 hm hm2 hst hk hsub hDl hrec hFix2 hG2 hd2 hB2 hdb hnd hdU bW0 bW3
        gi_wp2_with (gi_at_builtin; refine wpListIn_append_run rfl _ _ 28 rfl rfl rfl E1.out ?_)
        exact HS.out
      case done =>
        rintro dd D ys U hdd hDd hS ⟨hF, hm, hdb, hnd, v, hG⟩ hdU
        obtain ⟨av, cv, hv⟩ := row_shape hG.row
        subst hv
        have hcW : U.cell? ⟨w3.heap.size, 0, none⟩ = some (.slice a3 (abv p.data.toList).length c3) := cell_of_row U w3.heap.size 0 _ _ _ hF.fW
        have hcL : U.cell? ⟨w3.heap.size + 1 + 1, 0, none⟩ = some (.slice av ys.length cv) := cell_of_row U (w3.heap.size + 1 + 1) 0 _ _ _ hG.box
        have hcR : U.cell? ⟨w.heap.size + 1, 0, none⟩ = some (.bool false) := cell_of_row U (w.heap.size + 1) 0 _ _ _ hF.fR
        have hfR : U.frozen? ⟨w.heap.size + 1, 0, none⟩ = false := frozen_of_row U (w.heap.size + 1) 0 _ _ hF.fR
        have HEq2 : Hid (∀ n, Calls Try.prog 17 #[.slice av ys.length cv, .slice a3 (abv p.data.toList).length c3] (U.drewN n) fun e w' => e = .returned (.bool true) ∧ ∃ m, w' = (U.drewN n).drewN m) := fun n => by
          have hr1 := hG.row
          rw [hS] at hr1 ⊢
          exact eqTexts_same _ _ (abv p.data.toList) _ _ (U.drewN n) hr1 hF.row
        have HH : Hid (U.heap[d]? = some (.deferred (some [])) ∧ U.heap[dd]? = some (.deferred (some [])) ∧ U.heap[w.heap.size + 1]? = some (.cells #[.bool false] 4 (0, 0)) ∧ Below w.heap.size w U ∧ d ≠ dd) := ⟨hdb, hdU, hF.fR, hm.2.1, fun e => by subst e; exact hnd hDd⟩
        clear hF hG hm hdb hnd hdU hS hDd hFix2 hG2 hd2 hB2 bW0 bW3
        gi_wp2_with fail
        refine ⟨trivial, rfl, (callsIn_wide.2 (HEq2.out 0)).mono ?_⟩
        rintro e w9 ⟨rfl, n9, rfl⟩
        obtain ⟨X, hX⟩ : ∃ X, X = ((U.drewN 0).drewN n9).setCell ⟨w.heap.size + 1, 0, none⟩ (.bool true) := ⟨_, rfl⟩
        have kX : Kept U X (· = w.heap.size + 1) := by
          rw [hX]
          exact (kept_below (below_drew (below_drew (Below.refl _ U) 0) n9) _).setCell ⟨w.heap.size + 1, 0, none⟩ _ (fun _ => rfl)
        have xdd : X.heap[dd]? = some (.deferred (some [])) := kX.heap HH.out.2.1 (fun e => by have := lt_of_block HH.out.2.2.1; omega)
        have xd : (X.putObj dd (.deferred none)).heap[d]? = some (.deferred (some [])) := by
          rw [World.putObj_heap_other HH.out.2.2.2.2]
          exact kX.heap HH.out.1 (fun e => by omega)
        have xr : X.heap[w.heap.size + 1]? = some (.cells #[.bool true] 4 (0, 0)) := by
          rw [hX]; exact Boxed.set _ (show ((U.drewN 0).drewN n9).heap[w.heap.size + 1]? = _ from HH.out.2.2.1)
        have yr : ((X.putObj dd (.deferred none)).putObj d (.deferred none)).heap[w.heap.size + 1]? = some (.cells #[.bool true] 4 (0, 0)) := by
          rw [World.putObj_heap_other (by omega), World.putObj_heap_other (by omega)]; exact xr
        have y0 : ((X.putObj dd (.deferred none)).putObj d (.deferred none)).cell? ⟨w.heap.size + 1, 0, none⟩ = some (.bool true) := cell_of_row _ (w.heap.size + 1) 0 _ _ _ yr
        have yB : Below w.heap.size w ((X.putObj dd (.deferred none)).putObj d (.deferred none)) := by
          have kA : Kept U (X.putObj dd (.deferred none)) (fun k => k = w.heap.size + 1 ∨ k = dd) := (kX.mono (fun k _ e => .inl e)).trans (kept_putObj X dd _) (fun k _ e => .inr e)
          have kB : Kept U ((X.putObj dd (.deferred none)).putObj d (.deferred none)) (fun k => k = w.heap.size + 1 ∨ k = dd ∨ k = d) := (kA.mono (fun k _ e => by rcases e with e | e; exact .inl e; exact .inr (.inl e))).trans (kept_putObj _ d _) (fun k _ e => .inr (.inr e))
          exact HH.out.2.2.2.1.trans (kB.below HH.out.2.2.2.1.size (fun k e => by omega))
        have HX : Hid (X = ((U.drewN 0).drewN n9).setCell ⟨w.heap.size + 1, 0, none⟩ (.bool true) ∧ X.heap[dd]? = some (.deferred (some [])) ∧ (X.putObj dd (.deferred none)).heap[d]? = some (.deferred (some [])) ∧ Below w.heap.size w ((X.putObj dd (.deferred none)).putObj d (.deferred none))) := ⟨hX, xdd, xd, yB⟩
        clear kX xdd xd xr yr yB hX
        gi_wp2
        rw [show U.drewN n9 = (U.drewN 0).drewN n9 from rfl, ← HX.out.1]
        refine ⟨by simp, .inl ⟨_, _, rfl, run_takeDeferred HX.out.2.1, ?_⟩⟩
        refine ⟨by simp, .inl ⟨_, _, rfl, run_takeDeferred HX.out.2.2.1, ?_⟩⟩
        refine ⟨.bool true, ?_, rfl, HX.out.2.2.2⟩
        have hres : Try.f5.results = #[.cell 4 4] := by kernel_rfl
        simp only [results, hres]
        go_simp
      case stop =>
        rintro dd D c pre U _ _ _ h _
        exact h.elim
    · have hkb : k = (abv p.data.toList).length := by
        rcases HK.out.2.2 with h | h
        · have := HK.out.2.1; omega
        · exact h
      subst hkb
      have hl3 := HF.out.row
      have hcap : (abv p.data.toList).length ≤ c3 ∧ c3 ≤ 9223372036854775807 := by
        rcases hl3.2 with ⟨e, h0⟩ | ⟨g, cap, cur, e, _, _, h3, h4, _⟩
        · simp only [Value.slice.injEq] at e
          omega
        · simp only [Value.slice.injEq] at e
          obtain ⟨_, _, rfl⟩ := e
          unfold maxLen at h4
          omega
      have hsl := fun w => run_upto a3 (abv p.data.toList).length c3 (abv p.data.toList).length (by omega) (by omega) w
      have HEq : Hid (∀ n, Calls Try.prog 17 #[.slice ao (abv p.data.toList).length cp, .slice a3 (abv p.data.toList).length c3] (V.drewN n) fun e w' => e = .returned (.bool true) ∧ ∃ m, w' = (V.drewN n).drewN m) := fun n => by
        have hr1 := HG.out.row
        have hr2 := row_take HF.out.row rfl (abv p.data.toList).length (by omega)
        exact eqTexts_same (.slice ao (abv p.data.toList).length cp) (.slice a3 (abv p.data.toList).length c3) ((abv p.data.toList).take (abv p.data.toList).length) _ _ (V.drewN n) hr1 hr2
      clear hl3 hcap
      gi_wp2_with fail
      refine wpIn_wide.2 ?_
      go_quiet ((go_at_call 17; exact Calls.quiet_of (HEq.out _)))
      have hfro : V.frozen? ⟨w3.heap.size + 1 + 1, 0, none⟩ = false := frozen_of_row V (w3.heap.size + 1 + 1) 0 _ _ HG.out.box
      gi_wp2_with fail
      obtain ⟨W2, hW2⟩ : ∃ W2, W2 = (V.drewN nq).setCell ⟨w3.heap.size + 1 + 1, 0, none⟩ (.slice none 0 0) := ⟨_, rfl⟩
      have kW2 : Kept V W2 (· = w3.heap.size + 1 + 1) := by
        rw [hW2]
        exact (kept_below (below_drew (Below.refl _ V) nq) _).setCell ⟨w3.heap.size + 1 + 1, 0, none⟩ _ (fun _ => rfl)
      have zW2 := kW2.size
      have hFa := HF.out
      have hFix2 : FixT w.heap.size (w.heap.size + 1) w3.heap.size (w3.heap.size + 1) w2.heap.size w3.heap.size a (.slice a3 (abv p.data.toList).length c3) (abv p.data.toList) p (fun k => k = w3.heap.size + 1) W2 := {
        fE := kW2.heap hFa.fE (fun e => by omega)
        fR := kW2.heap hFa.fR (fun e => by omega)
        fW := kW2.heap hFa.fW (fun e => by omega)
        fC := kW2.heap hFa.fC (fun e => by omega)
        row := row_kept hFa.row kW2 (fun k e e' => by have := hFa.lt k e; omega)
        lt := hFa.lt
        dE := fun h => by omega
        dR := fun h => by omega
        dW := fun h => by omega
        dv := fun k e h => by have := hFa.lt k e; omega }
      have hbox2 : W2.heap[w3.heap.size + 1 + 1]? = some (.cells #[.slice none 0 0] 28 (0, 0)) := by
        rw [hW2]; exact Boxed.set _ (show (V.drewN nq).heap[w3.heap.size + 1 + 1]? = _ from HG.out.box)
      have hG2 : GathT w3.heap.size (w3.heap.size + 1 + 1) (fun k => k = w3.heap.size + 1) [] (.slice none 0 0) W2 := { box := hbox2, row := World.ownsRow_nil _ _ _ _, dB := fun h => by omega, dv := fun k e => by simp [Value.ownBlock] at e, dl := fun k h => by have := lt_of_block hFix2.fC; omega }
      have hd2 : W2.heap[d]? = some (.deferred (some [])) := kW2.heap HdV.out (fun e => by omega)
      have hB2 : Below w.heap.size w W2 := HB.out.trans (kW2.below HB.out.size (fun k e => by omega))
      rw [← hW2]
      have hltc := lt_of_block hFix2.fC
      have hltw := lt_of_block hFix2.fW
      clear hW2 kW2 hFa hbox2 HF HG HB HdV HKl HEq hsl hcE hcW hcL hfro
      refine range_R (gf := 30) (lb := #[.pointer (some ⟨w3.heap.size + 1, 0, none⟩)]) rfl (enters_of Try.func30 (by kernel_rfl) rfl)
        (above1_seq (w3.heap.size + 1) p W2 hFix2.fC (by omega)) (fun _ => rfl)
        (fun k hk => by omega)
        (fun pre x Wb W l r o h hl => h)
        (fun D pre U => FixT w.heap.size (w.heap.size + 1) w3.heap.size (w3.heap.size + 1) w2.heap.size w3.heap.size a (.slice a3 (abv p.data.toList).length c3) (abv p.data.toList) p D U ∧ Mine w.heap.size w (fun k => k = w3.heap.size + 1) D U ∧ U.heap[d]? = some (.deferred (some [])) ∧ ¬ D d ∧ ∃ v, GathT w3.heap.size (w3.heap.size + 1 + 1) D pre v U)
        (fun _ _ _ _ => False)
        (fun D D' s W W' h hk hD => ⟨h.1.stays hk hD, h.2.1.stays hk hD, hk.heap h.2.2.1 (fun hd => h.2.2.2.1 hd.1), keep_new h.2.2.1 h.2.2.2.1 hD, h.2.2.2.2.choose, h.2.2.2.2.choose_spec.stays hk hD⟩)
        (fun _ _ _ _ _ _ h _ _ => h)
        ⟨hFix2, ⟨Nat.le_refl _, hB2, fun k hk hn => absurd hk hn⟩, hd2, fun h => by omega, _, hG2⟩
        (fun x => { tmps := #[.string p, .int .i64 a, undef, .pointer (some ⟨w.heap.size, 0, none⟩), .pointer (some ⟨w.heap.size + 1, 0, none⟩), .bool true, .pointer (some ⟨w3.heap.size, 0, none⟩), .func (.func 30) #[] #[.pointer (some ⟨w3.heap.size + 1, 0, none⟩)], .pointer (some ⟨w3.heap.size + 1 + 1, 0, none⟩), undef, .int .i64 ((abv p.data.toList).length : Nat), bytesV x, .string p, .bool false, .bool false, .int .i64 a, .bool false, .bool false, .bool true, .string p, .slice a3 (abv p.data.toList).length c3, .string p, .func (.func 30) #[] #[.pointer (some ⟨w3.heap.size + 1, 0, none⟩)], .func (.func 30) #[] #[.pointer (some ⟨w3.heap.size + 1, 0, none⟩)], .bool false, .func (.func 30) #[] #[.pointer (some ⟨w3.heap.size + 1, 0, none⟩)], undef, undef, undef, undef, undef, undef, undef, undef, undef, .slice a3 (abv p.data.toList).length c3, .int .i64 ((abv p.data.toList).length : Nat), .int .i64 a, .int .i64 ((abv p.data.toList).length : Nat), .bool false, undef, .bool true, .bool false, .bool false, .slice ao (abv p.data.toList).length cp, .slice a3 (abv p.data.toList).length c3, .int .i64 ((abv p.data.toList).length : Nat), .slice a3 (abv p.data.toList).length c3, .bool true, .bool false, .bool false, .func (.func 30) #[] #[.pointer (some ⟨w3.heap.size + 1, 0, none⟩)], bytesV x, undef, undef, undef, undef, undef, undef, undef, undef, undef, undef, undef, undef], defers := [] }) ?assign ?body ?done ?stop
      case assign =>
        intro l x W K hK
        simp only [abvEnc]
        gi_wp2
        exact hK
      case body =>
        rintro l D pre x Wb U hl' hrec hDl hsub ⟨hF, hm, hdb, hnd, v, hG⟩ hk ⟨t, hst⟩
        have hF2 := hF.stays hk (fun k hk' => .inl hk')
        have hm2 := hm.stays hk (fun k hk' => .inl hk')
        have hGG := hG.stays hk (fun k hk' => .inl hk')
        have hdU : U.heap[d]? = some (.deferred (some [])) := hk.heap hdb (fun h => hnd h.1)
        have hpl : pre.length ≤ 64 ∧ pre.length < (abv p.data.toList).length := by
          have := HLn.out
          rw [hst] at this ⊢
          simp only [List.length_append, List.length_cons] at this ⊢
          omega
        obtain ⟨av, cv, hv⟩ := row_shape hGG.row
        subst hv
        have hcW : U.cell? ⟨w3.heap.size, 0, none⟩ = some (.slice a3 (abv p.data.toList).length c3) := cell_of_row U w3.heap.size 0 _ _ _ hF2.fW
        have hcL : U.cell? ⟨w3.heap.size + 1 + 1, 0, none⟩ = some (.slice av pre.length cv) := cell_of_row U (w3.heap.size + 1 + 1) 0 _ _ _ hGG.box
        obtain ⟨g1, c1, w1', e1, q1, q2, G5, K5⟩ := gathT_round hGG x (by omega) (by have := lt_of_block hF2.fW; omega) (by omega)
        have hF5 := hF2.grow hGG (hsub _ rfl) (by omega) (by omega) (by omega) (by omega) K5
        have HS : Hid (Kept U (w1'.setCell ⟨w3.heap.size + 1 + 1, 0, none⟩ (.slice (some ⟨g1, 0, none⟩) (pre.length + 1) c1)) (fun k => ¬ D k) ∧ FixT w.heap.size (w.heap.size + 1) w3.heap.size (w3.heap.size + 1) w2.heap.size w3.heap.size a (.slice a3 (abv p.data.toList).length c3) (abv p.data.toList) p D (w1'.setCell ⟨w3.heap.size + 1 + 1, 0, none⟩ (.slice (some ⟨g1, 0, none⟩) (pre.length + 1) c1)) ∧ Mine w.heap.size w (fun k => k = w3.heap.size + 1) D (w1'.setCell ⟨w3.heap.size + 1 + 1, 0, none⟩ (.slice (some ⟨g1, 0, none⟩) (pre.length + 1) c1)) ∧ (w1'.setCell ⟨w3.heap.size + 1 + 1, 0, none⟩ (.slice (some ⟨g1, 0, none⟩) (pre.length + 1) c1)).heap[d]? = some (.deferred (some [])) ∧ ¬ D d ∧ ∃ v, GathT w3.heap.size (w3.heap.size + 1 + 1) D (pre ++ [x]) v (w1'.setCell ⟨w3.heap.size + 1 + 1, 0, none⟩ (.slice (some ⟨g1, 0, none⟩) (pre.length + 1) c1))) := by
          refine ⟨K5.mono (fun k _ h => ?_), hF5, ⟨hm2.1, hm2.2.1.trans (K5.below hm2.2.1.size (fun k h => ?_)), hm2.2.2⟩, K5.heap hdU (fun h => ?_), hnd, _, G5⟩
          · rcases h with rfl | h
            · exact hGG.dB
            · exact hGG.dv k h
          · rcases h with rfl | h
            · omega
            · have := (row_at hGG.row h).2.1; omega
          · rcases h with h | h
            · omega
            · obtain ⟨⟨cs, h1⟩, _⟩ := row_at hGG.row h
              rw [h1] at hdU
              cases hdU
        have E1 : Hid _ := e1
        clear e1 G5 K5 hG hGG hF hF2 hF5 hm hm2 hst hk hsub hDl hrec hFix2 hG2 hd2 hB2 hdb hnd hdU bW0 bW3
        gi_wp2_with (gi_at_builtin; refine wpListIn_append_run rfl _ _ 28 rfl rfl rfl E1.out ?_)
        exact HS.out
      case done =>
        rintro dd D ys U hdd hDd hS ⟨hF, hm, hdb, hnd, v, hG⟩ hdU
        obtain ⟨av, cv, hv⟩ := row_shape hG.row
        subst hv
        have hcW : U.cell? ⟨w3.heap.size, 0, none⟩ = some (.slice a3 (abv p.data.toList).length c3) := cell_of_row U w3.heap.size 0 _ _ _ hF.fW
        have hcL : U.cell? ⟨w3.heap.size + 1 + 1, 0, none⟩ = some (.slice av ys.length cv) := cell_of_row U (w3.heap.size + 1 + 1) 0 _ _ _ hG.box
        have hcR : U.cell? ⟨w.heap.size + 1, 0, none⟩ = some (.bool false) := cell_of_row U (w.heap.size + 1) 0 _ _ _ hF.fR
        have hfR : U.frozen? ⟨w.heap.size + 1, 0, none⟩ = false := frozen_of_row U (w.heap.size + 1) 0 _ _ hF.fR
        have HEq2 : Hid (∀ n, Calls Try.prog 17 #[.slice av ys.length cv, .slice a3 (abv p.data.toList).length c3] (U.drewN n) fun e w' => e = .returned (.bool true) ∧ ∃ m, w' = (U.drewN n).drewN m) := fun n => by
          have hr1 := hG.row
          rw [hS] at hr1 ⊢
          exact eqTexts_same _ _ (abv p.data.toList) _ _ (U.drewN n) hr1 hF.row
        have HH : Hid (U.heap[d]? = some (.deferred (some [])) ∧ U.heap[dd]? = some (.deferred (some [])) ∧ U.heap[w.heap.size + 1]? = some (.cells #[.bool false] 4 (0, 0)) ∧ Below w.heap.size w U ∧ d ≠ dd) := ⟨hdb, hdU, hF.fR, hm.2.1, fun e => by subst e; exact hnd hDd⟩
        clear hF hG hm hdb hnd hdU hS hDd hFix2 hG2 hd2 hB2 bW0 bW3
        gi_wp2_with fail
        refine ⟨trivial, rfl, (callsIn_wide.2 (HEq2.out 0)).mono ?_⟩
        rintro e w9 ⟨rfl, n9, rfl⟩
        obtain ⟨X, hX⟩ : ∃ X, X = ((U.drewN 0).drewN n9).setCell ⟨w.heap.size + 1, 0, none⟩ (.bool true) := ⟨_, rfl⟩
        have kX : Kept U X (· = w.heap.size + 1) := by
          rw [hX]
          exact (kept_below (below_drew (below_drew (Below.refl _ U) 0) n9) _).setCell ⟨w.heap.size + 1, 0, none⟩ _ (fun _ => rfl)
        have xdd : X.heap[dd]? = some (.deferred (some [])) := kX.heap HH.out.2.1 (fun e => by have := lt_of_block HH.out.2.2.1; omega)
        have xd : (X.putObj dd (.deferred none)).heap[d]? = some (.deferred (some [])) := by
          rw [World.putObj_heap_other HH.out.2.2.2.2]
          exact kX.heap HH.out.1 (fun e => by omega)
        have xr : X.heap[w.heap.size + 1]? = some (.cells #[.bool true] 4 (0, 0)) := by
          rw [hX]; exact Boxed.set _ (show ((U.drewN 0).drewN n9).heap[w.heap.size + 1]? = _ from HH.out.2.2.1)
        have yr : ((X.putObj dd (.deferred none)).putObj d (.deferred none)).heap[w.heap.size + 1]? = some (.cells #[.bool true] 4 (0, 0)) := by
          rw [World.putObj_heap_other (by omega), World.putObj_heap_other (by omega)]; exact xr
        have y0 : ((X.putObj dd (.deferred none)).putObj d (.deferred none)).cell? ⟨w.heap.size + 1, 0, none⟩ = some (.bool true) := cell_of_row _ (w.heap.size + 1) 0 _ _ _ yr
        have yB : Below w.heap.size w ((X.putObj dd (.deferred none)).putObj d (.deferred none)) := by
          have kA : Kept U (X.putObj dd (.deferred none)) (fun k => k = w.heap.size + 1 ∨ k = dd) := (kX.mono (fun k _ e => .inl e)).trans (kept_putObj X dd _) (fun k _ e => .inr e)
          have kB : Kept U ((X.putObj dd (.deferred none)).putObj d (.deferred none)) (fun k => k = w.heap.size + 1 ∨ k = dd ∨ k = d) := (kA.mono (fun k _ e => by rcases e with e | e; exact .inl e; exact .inr (.inl e))).trans (kept_putObj _ d _) (fun k _ e => .inr (.inr e))
          exact HH.out.2.2.2.1.trans (kB.below HH.out.2.2.2.1.size (fun k e => by omega))
        have HX : Hid (X = ((U.drewN 0).drewN n9).setCell ⟨w.heap.size + 1, 0, none⟩ (.bool true) ∧ X.heap[dd]? = some (.deferred (some [])) ∧ (X.putObj dd (.deferred none)).heap[d]? = some (.deferred (some [])) ∧ Below w.heap.size w ((X.putObj dd (.deferred none)).putObj d (.deferred none))) := ⟨hX, xdd, xd, yB⟩
        clear kX xdd xd xr yr yB hX
        gi_wp2
        rw [show U.drewN n9 = (U.drewN 0).drewN n9 from rfl, ← HX.out.1]
        refine ⟨by simp, .inl ⟨_, _, rfl, run_takeDeferred HX.out.2.1, ?_⟩⟩
        refine ⟨by simp, .inl ⟨_, _, rfl, run_takeDeferred HX.out.2.2.1, ?_⟩⟩
        refine ⟨.bool true, ?_, rfl, HX.out.2.2.2⟩
        have hres : Try.f5.results = #[.cell 4 4] := by kernel_rfl
        simp only [results, hres]
        go_simp
      case stop =>
        rintro dd D c pre U _ _ _ h _
        exact h.elim
  have HCont : Hid _ := cont
  clear cont hK
  refine range_R (gf := 30) (lb := #[.pointer (some ⟨w3.heap.size + 1, 0, none⟩)]) rfl (enters_of Try.func30 (by kernel_rfl) rfl)
    (above1_seq (w3.heap.size + 1) p W0 hFix0.fC (by omega)) (fun _ => rfl)
    (fun k hk => by omega)
    (fun pre x Wb W l r o h hl => h)
    (fun D pre V => FixT w.heap.size (w.heap.size + 1) w3.heap.size (w3.heap.size + 1) w2.heap.size w3.heap.size a (.slice a3 (abv p.data.toList).length c3) (abv p.data.toList) p D V ∧ Mine w.heap.size w (fun k => k = w3.heap.size + 1) D V ∧ (pre.length : Int) ≤ a ∧ ∃ v, GathT w3.heap.size (w3.heap.size + 1 + 1) D pre v V)
    (fun c D pre V => c = .exit 0 ∧ FixT w.heap.size (w.heap.size + 1) w3.heap.size (w3.heap.size + 1) w2.heap.size w3.heap.size a (.slice a3 (abv p.data.toList).length c3) (abv p.data.toList) p D V ∧ Mine w.heap.size w (fun k => k = w3.heap.size + 1) D V ∧ ∃ k : Nat, (∃ v, GathT w3.heap.size (w3.heap.size + 1 + 1) D ((abv p.data.toList).take k) v V) ∧ (k : Int) = a ∧ k ≤ (abv p.data.toList).length)
    (fun D D' s W W' h hk hD => ⟨h.1.stays hk hD, h.2.1.stays hk hD, h.2.2.1, h.2.2.2.choose, h.2.2.2.choose_spec.stays hk hD⟩)
    (fun c D D' s W W' h hk hD => ⟨h.1, h.2.1.stays hk hD, h.2.2.1.stays hk hD, h.2.2.2.choose, ⟨_, h.2.2.2.choose_spec.1.choose_spec.stays hk hD⟩, h.2.2.2.choose_spec.2⟩)
    ⟨hFix0, ⟨Nat.le_refl _, bW0, fun k hk hn => absurd hk hn⟩, by simpa using ha, _, hG0⟩
    (fun x => { tmps := #[.string p, .int .i64 a, undef, .pointer (some ⟨w.heap.size, 0, none⟩), .pointer (some ⟨w.heap.size + 1, 0, none⟩), .bool true, .pointer (some ⟨w3.heap.size, 0, none⟩), .func (.func 30) #[] #[.pointer (some ⟨w3.heap.size + 1, 0, none⟩)], .pointer (some ⟨w3.heap.size + 1 + 1, 0, none⟩), bytesV x, undef, undef, .string p, .bool false, .bool false, .int .i64 a, .bool false, .bool false, .bool true, .string p, .slice a3 (abv p.data.toList).length c3, .string p, .func (.func 30) #[] #[.pointer (some ⟨w3.heap.size + 1, 0, none⟩)], .func (.func 30) #[] #[.pointer (some ⟨w3.heap.size + 1, 0, none⟩)], .bool false, .func (.func 30) #[] #[.pointer (some ⟨w3.heap.size + 1, 0, none⟩)], bytesV x, undef, undef, undef, undef, undef, undef, undef, undef, undef, undef, undef, undef, undef, undef, undef, undef, undef, undef, undef, undef, undef, undef, undef, undef, undef, undef, undef, undef, undef, undef, undef, undef, undef, undef, undef, undef, undef, undef], defers := [] }) ?assign ?body ?done ?stop
  case assign =>
    intro l x W K hK
    simp only [abvEnc]
    gi_wp2
    exact hK
  case body =>
    rintro l D pre x Wb V hl' hrec hDl hsub ⟨hF, hm, hla, v, hG⟩ hk ⟨t, hst⟩
    have hF2 := hF.stays hk (fun k hk' => .inl hk')
    have hm2 := hm.stays hk (fun k hk' => .inl hk')
    have hG2 := hG.stays hk (fun k hk' => .inl hk')
    have hpl : pre.length ≤ 64 ∧ pre.length < (abv p.data.toList).length := by
      have := HLn.out
      rw [hst] at this ⊢
      simp only [List.length_append, List.length_cons] at this ⊢
      omega
    obtain ⟨ao, cp, hv⟩ := row_shape hG2.row
    subst hv
    have hcE : V.cell? ⟨w.heap.size, 0, none⟩ = some (.int .i64 a) := cell_of_row V w.heap.size 0 _ _ _ hF2.fE
    have hcL : V.cell? ⟨w3.heap.size + 1 + 1, 0, none⟩ = some (.slice ao pre.length cp) := cell_of_row V (w3.heap.size + 1 + 1) 0 _ _ _ hG2.box
    by_cases hge : a ≤ (pre.length : Int)
    · have htake : (abv p.data.toList).take pre.length = pre := by rw [hst]; simp
      have HS : Hid (Kept V V (fun k => ¬ D k) ∧ FixT w.heap.size (w.heap.size + 1) w3.heap.size (w3.heap.size + 1) w2.heap.size w3.heap.size a (.slice a3 (abv p.data.toList).length c3) (abv p.data.toList) p D V ∧ Mine w.heap.size w (fun k => k = w3.heap.size + 1) D V ∧ ∃ k : Nat, (∃ v, GathT w3.heap.size (w3.heap.size + 1 + 1) D ((abv p.data.toList).take k) v V) ∧ (k : Int) = a ∧ k ≤ (abv p.data.toList).length) :=
        ⟨Kept.refl V _, hF2, hm2, pre.length, ⟨_, by rw [htake]; exact hG2⟩, by omega, by omega⟩
      clear hF hF2 hm hm2 hG hG2 hk hst hsub hDl hrec hFix0 hG0 bW0 bW3
      gi_wp2
      exact ⟨HS.out.1, rfl, HS.out.2⟩
    · obtain ⟨g1, c1, w1', e1, q1, q2, G5, K5⟩ := gathT_round hG2 x (by omega) (by have := hm2.2.1.size; have := lt_of_block hF2.fW; omega) (by omega)
      have hF5 := hF2.grow hG2 (hsub _ rfl) (by omega) (by omega) (by omega) (by omega) K5
      have HS : Hid (Kept V (w1'.setCell ⟨w3.heap.size + 1 + 1, 0, none⟩ (.slice (some ⟨g1, 0, none⟩) (pre.length + 1) c1)) (fun k => ¬ D k) ∧ FixT w.heap.size (w.heap.size + 1) w3.heap.size (w3.heap.size + 1) w2.heap.size w3.heap.size a (.slice a3 (abv p.data.toList).length c3) (abv p.data.toList) p D (w1'.setCell ⟨w3.heap.size + 1 + 1, 0, none⟩ (.slice (some ⟨g1, 0, none⟩) (pre.length + 1) c1)) ∧ Mine w.heap.size w (fun k => k = w3.heap.size + 1) D (w1'.setCell ⟨w3.heap.size + 1 + 1, 0, none⟩ (.slice (some ⟨g1, 0, none⟩) (pre.length + 1) c1)) ∧ ((pre ++ [x]).length : Int) ≤ a ∧ ∃ v, GathT w3.heap.size (w3.heap.size + 1 + 1) D (pre ++ [x]) v (w1'.setCell ⟨w3.heap.size + 1 + 1, 0, none⟩ (.slice (some ⟨g1, 0, none⟩) (pre.length + 1) c1))) := by
        refine ⟨K5.mono (fun k _ h => ?_), hF5, ⟨hm2.1, hm2.2.1.trans (K5.below hm2.2.1.size (fun k h => ?_)), hm2.2.2⟩, by simp; omega, _, G5⟩
        · rcases h with rfl | h
          · exact hG2.dB
          · exact hG2.dv k h
        · rcases h with rfl | h
          · omega
          · have := (row_at hG2.row h).2.1; omega
      have E1 : Hid _ := e1
      clear e1 G5 K5 hG hG2 hF hF2 hF5 hm hm2 hst hk hsub hDl hrec hFix0 hG0 bW0 bW3
      gi_wp2_with (gi_at_builtin; refine wpListIn_append_run rfl _ _ 28 rfl rfl rfl E1.out ?_)
      exact HS.out
  case done =>
    rintro d D ys V hd _ hS ⟨hF, hm, hla, v, hG⟩ hdV
    have htake : (abv p.data.toList).take ys.length = ys := by rw [← hS]; simp
    exact HCont.out d V D ys.length v (by omega) hdV hF (by rw [htake]; exact hG) ⟨hla, by rw [← hS]; exact Nat.le_refl _, .inr (by rw [← hS])⟩ hm.2.1
  case stop =>
    rintro d D c pre V hd _ _ ⟨rfl, hF, hm, k, ⟨v, hG⟩, hka, hkl⟩ hdV
    refine wpIn_exit ?_
    exact HCont.out d V D k v (by omega) hdV hF hG ⟨by omega, hkl, .inl hka⟩ hm.2.1

end Go.Proofs.Ytgaemldkpfbomaa
