/- WatchParts is true for every list of watches, every client and either way, wherever what comes in is of bulk at most 1,048,576 (the narrower form: UptoSaid; beyond 2^44 letters in one path the document's own Check makes a list of more than 2^48 bytes): what Drop, or Clear, tells, and what All tells behind it, are together what All told ahead, each in its order. -/
import Derived.Test.YtgdbcdddcejehaaRows
import Derived.Test.YtgdbcdddcejehaaWaXJ
import Derived.Test.YtgdbcdddcejehaaWaQJ
import Derived.JoinedCond
namespace Go.Proofs.Ytgdbcdddcejehaa
open Go.ChangeShapes Go.WideShapes Go.ChangeAt Go.RowKit
set_option maxRecDepth 8000
namespace watchParts
set_option linter.unusedVariables false

theorem bulk_pos {H : Type} (d : DataW H) : 0 < Rows.uptoBulk d := by
  match d with
  | .lit (.string _) => simp [Rows.uptoBulk]
  | .lit (.bool _) => simp [Rows.uptoBulk]
  | .lit (.int _ _) => simp [Rows.uptoBulk]
  | .lit _ => unfold Rows.uptoBulk; split <;> omega
  | .nil | .ptr _ | .slice _ _ | .agg _ | .iface _ _ | .map _ | .held _ => simp [Rows.uptoBulk]
theorem bulk_mem {H : Type} {d : DataW H} : ∀ {l : List (DataW H)}, d ∈ l → Rows.uptoBulk d ≤ Rows.uptoBulkAll l
  | x :: r, h => by
    rw [Rows.uptoBulkAll]
    rcases List.mem_cons.1 h with rfl | h'
    · omega
    · have := bulk_mem h'; omega
theorem bulk_len {H : Type} : ∀ l : List (DataW H), l.length ≤ Rows.uptoBulkAll l
  | [] => Nat.zero_le _
  | x :: r => by
    rw [Rows.uptoBulkAll, List.length_cons]
    have := bulk_pos x
    have := bulk_len r
    omega

section
variable {H : Type} {enc : TypeId × Value → H} {W : World} {base : Nat} {spare : Nat → Bool} {held : Bool}

/-- A watch that came in: its text is no longer than its bulk. -/
theorem open_waB {fuel : Nat} {cs : List Value} {x : DataW H × List MemPlace} (h : DataW.trod enc Try.prog W base spare held fuel 30 cs = some x) :
    ∃ y : WaT, cs = [.int .i64 y.1, .int .i8 y.2.1, .string y.2.2] ∧ y.2.2.size ≤ Rows.uptoBulk x.1 := by
  have hcells : Try.prog.cellsOf 30 = 3 := by kernel_rfl
  obtain ⟨xs, n, _, hx, hl, hxl, hf⟩ := DataW.trod_struct Try.underlying30 h
  rw [hcells] at hl
  have q1 : Try.prog.cellsOf 2 = 1 := by kernel_rfl
  have q2 : Try.prog.cellsOf 28 = 1 := by kernel_rfl
  have q3 : Try.prog.cellsOf 9 = 1 := by kernel_rfl
  have g0 : DataW.trod enc Try.prog W base spare held n 2 ((cs.drop 0).take (Try.prog.cellsOf 2)) = xs[0]? := hf 0 _ rfl
  have g1 : DataW.trod enc Try.prog W base spare held n 28 ((cs.drop 1).take (Try.prog.cellsOf 28)) = xs[1]? := hf 1 _ rfl
  have g2 : DataW.trod enc Try.prog W base spare held n 9 ((cs.drop 2).take (Try.prog.cellsOf 9)) = xs[2]? := hf 2 _ rfl
  have hxl3 : xs.length = 3 := hxl
  clear hf hxl
  match xs, hxl3, cs, hl with
  | [y0, y1, y2], _, [v0, v1, v2], _ =>
    rw [q1] at g0
    rw [q2] at g1
    rw [q3] at g2
    obtain ⟨a, e0, _, _⟩ := DataW.trod_int Try.underlying2 (show DataW.trod enc Try.prog W base spare held n 2 [v0] = some y0 from g0)
    obtain ⟨b, e1, _, _⟩ := DataW.trod_int Try.underlying28 (show DataW.trod enc Try.prog W base spare held n 28 [v1] = some y1 from g1)
    obtain ⟨c, e2, ec, _⟩ := DataW.trod_string Try.underlying9 (show DataW.trod enc Try.prog W base spare held n 9 [v2] = some y2 from g2)
    simp at e0 e1 e2
    subst e0 e1 e2
    refine ⟨(a, b, c), rfl, ?_⟩
    rw [hx]
    have hp : Rows.uptoBulk y2.1 ≤ Rows.uptoBulkAll [y0.1, y1.1, y2.1] := bulk_mem (by simp)
    have hb : Rows.uptoBulk y2.1 = c.data.toList.length + 1 := by rw [ec]; simp [Rows.uptoBulk]
    have e : c.data.toList.length = c.size := by rw [Array.length_toList]; rfl
    simp only [Rows.uptoBulk, List.map_cons, List.map_nil]
    show c.size ≤ _
    omega

theorem open_was {fuel : Nat} {v : Value} {x : DataW H × List MemPlace} (h : DataW.trod enc Try.prog W base spare held fuel 27 [v] = some x) (hw : Rows.uptoBulk x.1 ≤ 1048576) :
    ∃ l : List WaT, SW W v l ∧ l.length ≤ 1048576 ∧ ∀ y ∈ l, y.2.2.size ≤ 1048576 := by
  have hcells : Try.prog.cellsOf 30 = 3 := by kernel_rfl
  rcases Deep.open_slice Try.underlying27 h with ⟨hcs, _⟩ | ⟨a', len, cap, m, n, D, Pl, hcs, _, hl, hm, hmm, hx, hel⟩
  · simp at hcs
    subst hcs
    exact ⟨[], ⟨none, 0, rfl, Nat.le_refl _, fun e => absurd rfl e⟩, Nat.zero_le _, fun y hy => by simp at hy⟩
  · simp at hcs
    subst hcs
    have hlm : len ≤ m := by rw [hmm]; split <;> omega
    rw [hx] at hw
    simp only [Rows.uptoBulk] at hw
    have hD : ∀ i, i < len → Rows.uptoBulk (D i) ≤ 1048576 := fun i hi => by
      have := bulk_mem (d := D i) (l := (List.range len).map D) (List.mem_map.2 ⟨i, List.mem_range.2 hi, rfl⟩)
      omega
    have hll : len ≤ 1048576 := by
      have := bulk_len ((List.range len).map D)
      simp at this
      omega
    have each : ∀ i, i < len → ∃ o : WaT, o.2.2.size ≤ 1048576 ∧ ∀ j, j < 3 → W.cell? (a'.add (i * 3 + j)) = (waCs o).toList[j]? := by
      intro i hi
      obtain ⟨cs', h1, h2⟩ := hel i (by omega)
      rw [hcells] at h1
      obtain ⟨_, hlen, hcell⟩ := World.cells?_some h1
      obtain ⟨o, e, hs⟩ := open_waB h2
      refine ⟨o, Nat.le_trans hs (hD i hi), fun j hj => ?_⟩
      have := hcell j hj
      rw [Deep.add_add] at this
      rw [this, e]
    have : Inhabited WaT := ⟨(0, 0, ⟨#[]⟩)⟩
    obtain ⟨O, hO⟩ := Deep.choose_lt each
    have hol : ((List.range len).map O).length = len := by simp
    refine ⟨(List.range len).map O, ⟨some a', cap, by rw [hol], by omega, fun hne => ?_⟩, by omega, fun y hy => ?_⟩
    · have h0 : len ≠ 0 := fun e => hne (by subst e; rfl)
      obtain ⟨b, off, spot⟩ := a'
      have hc := (hO 0 (by omega)).2 0 (by omega)
      have hc' : W.cell? ((⟨b, off, spot⟩ : Addr).add (0 * 3 + 0)) = some (.int .i64 (O 0).1) := hc
      have hspot : spot = none := by simpa [Addr.add] using World.cell?_spot hc'
      subst hspot
      refine ⟨b, off, rfl, fun i s hs => ?_⟩
      have hi : i < len := by rw [← hol]; exact (List.getElem?_eq_some_iff.1 hs).1
      have c := (hO i hi).2
      simp only [Addr.add_lit] at c
      have es : s = O i := by
        have := (List.getElem?_eq_some_iff.1 hs).2
        simpa using this.symm
      subst es
      exact ⟨c 0 (by omega), c 1 (by omega), c 2 (by omega)⟩
    · obtain ⟨i, hi, rfl⟩ := List.mem_map.1 hy
      exact (hO i (List.mem_range.1 hi)).1

end

/-! ### The row's step -/
set_option maxHeartbeats 4000000 in
theorem contract (H : Type) (enc : TypeId × Value → H) (W : World) (base : Nat) (args : Array Value) (ds gs : List (DataW H)) (before : List MemPlace)
    (hval0 : ∀ (j : Nat) t v, Try.f4.params[j]? = some t → args[j]? = some v → Value.okWide Try.prog W .any base t v)
    (hW : DataW.Whole enc Try.prog Try.f4.params.toList Rows.watchPartsSpec.vars false W args.toList ds gs before) (hk : Rows.uptoSmall H (ds ++ gs) = true) :
    Calls Try.prog 4 args W fun e W' => ∃ v, e = .returned v ∧ Rows.watchPartsSpec.post enc Try.prog Try.f4 false true false false W args v W' := by
  have hval : ∀ (j : Nat) t v, Try.f4.params[j]? = some t → args[j]? = some v → Value.okWide Try.prog W .any base t v := hval0
  have hW' := hW
  obtain ⟨p, q, hA0, hV, rfl, hfz, hnd⟩ := hW
  have hA : DataW.TrodAll enc Try.prog W 0 (fun _ => true) true Try.f4.params.toList args.toList ds p := hA0
  rw [Try.params4] at hA hval
  obtain ⟨v0, vs0, d0, ds0, p0, q0, hargs, rfl, rfl, h0, r0⟩ := trodAll_cons hA
  obtain ⟨v1, vs1, d1, ds1, p1, q1, rfl, rfl, rfl, h1, r1⟩ := trodAll_cons r0
  obtain ⟨v2, vs2, d2, ds2, p2, q2, rfl, rfl, rfl, h2, r2⟩ := trodAll_cons r1
  obtain ⟨rfl, rfl, rfl⟩ := trodAll_nil r2
  obtain rfl : args = #[v0, v1, v2] := by cases args; simp_all
  obtain ⟨rfl, rfl⟩ := trodVars_none hV
  obtain ⟨a0, len0, cap0, rfl⟩ := okWide_slice Try.underlying27 (hval 0 27 v0 rfl rfl)
  obtain ⟨n1, rfl⟩ := okWide_int Try.underlying2 (hval 1 2 v1 rfl rfl)
  obtain ⟨n2, rfl⟩ := okWide_bool Try.underlying4 (hval 2 4 v2 rfl rfl)
  have k0 := h0
  have lt0 : ∀ x ∈ p0, x.block < W.heap.size := by obtain ⟨m, hm⟩ := k0; exact DataW.trod_lt m _ _ _ hm
  have k1 := h1
  have lt1 : ∀ x ∈ p1, x.block < W.heap.size := by obtain ⟨m, hm⟩ := k1; exact DataW.trod_lt m _ _ _ hm
  have k2 := h2
  have lt2 : ∀ x ∈ p2, x.block < W.heap.size := by obtain ⟨m, hm⟩ := k2; exact DataW.trod_lt m _ _ _ hm
  have hbk : Rows.uptoBulk d0 ≤ 1048576 := by
    have h : Rows.uptoBulkAll ([d0, d1, d2] ++ []) ≤ 1048576 := of_decide_eq_true hk
    have := bulk_mem (d := d0) (l := [d0, d1, d2] ++ []) (by simp)
    omega
  obtain ⟨xs0, hs0, hl0, hz0⟩ : ∃ l : List WaT, SW W (.slice a0 len0 cap0) l ∧ l.length ≤ 1048576 ∧ ∀ y ∈ l, y.2.2.size ≤ 1048576 := by
    obtain ⟨fuel, hf⟩ := h0
    exact open_was (show DataW.trod enc Try.prog W 0 (fun _ => true) true fuel 27 [.slice a0 len0 cap0] = some (d0, p0) from hf) hbk
  clear hA0 hval0
  refine (parts_walk n1 n2 hs0 (by omega) (fun x hx => by have := hz0 x hx; omega)).mono fun e W' ⟨he, bel⟩ => ?_
  subst he
  exact ⟨_, rfl, _, _, _, [], _, [], hW', trodAll_mk1 (shut_bool Try.underlying4 _), (trodAll_cons_mk (Below.trod Try.laidOut (by kernel_rfl) (of_decide_eq_true (by kernel_rfl)) k0 bel lt0) (trodAll_cons_mk (Below.trod Try.laidOut (by kernel_rfl) (of_decide_eq_true (by kernel_rfl)) k1 bel lt1) (trodAll_cons_mk (Below.trod Try.laidOut (by kernel_rfl) (of_decide_eq_true (by kernel_rfl)) k2 bel lt2) trodAll_mk0))), rfl, bel.frame _, fun h => by cases h⟩

set_option maxRecDepth 100000 in
theorem lifted (os : Os) (started : os.Started) (H : Type) (enc : TypeId × Value → H) (F : Stop.Interp) :
    ReturnsInHanded {} Try.checked os 4 .any ((Rows.OpenSpec.upto Rows.watchPartsSpec).pre6 enc Try.prog Try.f4 Rows.watchPartsUptoRow.domain false) (((Rows.OpenSpec.upto Rows.watchPartsSpec).at F).post enc Try.prog Try.f4 false true false false) := by
  refine returnsInHanded_of_cond (C := Try.checked) (s := Rows.OpenSpec.upto Rows.watchPartsSpec) (k := Rows.uptoSmall) rfl Try.own started (by kernel_rfl) Try.func4
    (OpenSpec.witness (enc := enc) (C := Try.checked) (s := Rows.OpenSpec.upto Rows.watchPartsSpec) (k := Rows.uptoSmall) rfl false ⟨#[], #[.slice none 0 0, .int .i64 0, .bool false], []⟩ 8 (by kernel_rfl) (by kernel_rfl) (by kernel_rfl)
      (x := ([.nil, .lit (.int .i64 0), .lit (.bool false)], [], [])) (by kernel_rfl) rfl (by kernel_rfl)) ?_
  intro W base args ds gs before hval hW _ hk _
  exact contract H enc W base args ds gs before hval hW hk

end watchParts

/-- The statement, in its second form. -/
theorem watchParts_holds : Rows.WatchPartsUptoSaid :=
  OpenClaim.holds_of_cond 4 Try.f4 rfl rfl rfl rfl rfl rfl rfl ⟨rfl, rfl, rfl, rfl, rfl⟩ rfl rfl rfl rfl rfl (by kernel_rfl) Try.func4 (by kernel_rfl)
    (of_decide_eq_true (by kernel_rfl)) (by unfold Func.isWrapper; first | (rw [if_pos (by decide +kernel)]; kernel_rfl) | (rw [if_neg (by decide +kernel)]; exact ⟨rfl, rfl⟩))
    (fun os started H enc _ F => watchParts.lifted os started H enc F)
#print axioms watchParts_holds
end Go.Proofs.Ytgdbcdddcejehaa
