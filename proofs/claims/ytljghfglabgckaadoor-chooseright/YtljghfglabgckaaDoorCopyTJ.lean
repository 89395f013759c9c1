/- Transactions and lists of them that came in, opened; no Go function is walked here. -/
import Derived.Test.YtljghfglabgckaaDoorRqOpen2J
import Derived.Test.YtljghfglabgckaaDoorChFJ
import Derived.Test.YtljghfglabgckaaDoorRqLJ
namespace Go.Proofs.YtljghfglabgckaaDoor
open Go.ChangeShapes Go.WideShapes Go.ChangeAt Go.RowKit
set_option maxRecDepth 8000

section
variable {H : Type} {enc : TypeId × Value → H} {W : World} {base : Nat} {spare : Nat → Bool} {held : Bool}

theorem open_u32x2 {fuel : Nat} {c0 c1 : Value} {x : DataW H × List MemPlace} (h : DataW.trod enc Tryd.prog W base spare held fuel 30 [c0, c1] = some x) :
    ∃ e n : Int, c0 = .int .u32 e ∧ c1 = .int .u32 n ∧ 0 ≤ e ∧ e ≤ 4294967295 ∧ 0 ≤ n ∧ n ≤ 4294967295 := by
  obtain ⟨xs, n, _, hx, hl, hxl, hf⟩ := DataW.trod_struct Tryd.underlying30 h
  have q : Tryd.prog.cellsOf 28 = 1 := by kernel_rfl
  have g0 : DataW.trod enc Tryd.prog W base spare held n 28 (([c0, c1].drop 0).take (Tryd.prog.cellsOf 28)) = xs[0]? := hf 0 _ rfl
  have g1 : DataW.trod enc Tryd.prog W base spare held n 28 (([c0, c1].drop 1).take (Tryd.prog.cellsOf 28)) = xs[1]? := hf 1 _ rfl
  have hxl2 : xs.length = 2 := hxl
  clear hf hxl
  match xs, hxl2 with
  | [y0, y1], _ =>
    rw [q] at g0 g1
    obtain ⟨a, e0, _, b0⟩ := DataW.trod_int Tryd.underlying28 (show DataW.trod enc Tryd.prog W base spare held n 28 [c0] = some y0 from g0)
    obtain ⟨b, e1, _, b1⟩ := DataW.trod_int Tryd.underlying28 (show DataW.trod enc Tryd.prog W base spare held n 28 [c1] = some y1 from g1)
    simp at e0 e1
    have k0 := bounds_u32 b0
    have k1 := bounds_u32 b1
    exact ⟨a, b, e0, e1, k0.1, k0.2, k1.1, k1.2⟩

theorem open_org {fuel : Nat} {c0 c1 c2 : Value} {x : DataW H × List MemPlace} (h : DataW.trod enc Tryd.prog W base spare held fuel 41 [c0, c1, c2] = some x) :
    ∃ s b m : Int, c0 = .int .i8 s ∧ c1 = .int .u32 b ∧ c2 = .int .i64 m ∧ -128 ≤ s ∧ s ≤ 127 ∧ 0 ≤ b ∧ b ≤ 4294967295 ∧ -9223372036854775808 ≤ m ∧ m ≤ 9223372036854775807 := by
  obtain ⟨xs, n, _, hx, hl, hxl, hf⟩ := DataW.trod_struct Tryd.underlying41 h
  have q0 : Tryd.prog.cellsOf 31 = 1 := by kernel_rfl
  have q1 : Tryd.prog.cellsOf 28 = 1 := by kernel_rfl
  have q2 : Tryd.prog.cellsOf 2 = 1 := by kernel_rfl
  have g0 : DataW.trod enc Tryd.prog W base spare held n 31 (([c0, c1, c2].drop 0).take (Tryd.prog.cellsOf 31)) = xs[0]? := hf 0 _ rfl
  have g1 : DataW.trod enc Tryd.prog W base spare held n 28 (([c0, c1, c2].drop 1).take (Tryd.prog.cellsOf 28)) = xs[1]? := hf 1 _ rfl
  have g2 : DataW.trod enc Tryd.prog W base spare held n 2 (([c0, c1, c2].drop 2).take (Tryd.prog.cellsOf 2)) = xs[2]? := hf 2 _ rfl
  have hxl2 : xs.length = 3 := hxl
  clear hf hxl
  match xs, hxl2 with
  | [y0, y1, y2], _ =>
    rw [q0] at g0
    rw [q1] at g1
    rw [q2] at g2
    obtain ⟨a, e0, _, b0⟩ := DataW.trod_int Tryd.underlying31 (show DataW.trod enc Tryd.prog W base spare held n 31 [c0] = some y0 from g0)
    obtain ⟨b, e1, _, b1⟩ := DataW.trod_int Tryd.underlying28 (show DataW.trod enc Tryd.prog W base spare held n 28 [c1] = some y1 from g1)
    obtain ⟨m, e2, _, b2⟩ := DataW.trod_int Tryd.underlying2 (show DataW.trod enc Tryd.prog W base spare held n 2 [c2] = some y2 from g2)
    simp at e0 e1 e2
    have k0 := bounds_i8 b0
    have k1 := bounds_u32 b1
    have k2 := bounds_i64 b2
    exact ⟨a, b, m, e0, e1, e2, k0.1, k0.2, k1.1, k1.2, k2.1, k2.2⟩

theorem open_tx {fuel : Nat} {cs : List Value} {x : DataW H × List MemPlace} (h : DataW.trod enc Tryd.prog W base spare held fuel 49 cs = some x) (hw : (x.1.weights Tryd.prog 49).all (· ≤ reachBytes) = true) :
    ∃ t : TxD, SeesTx W cs t ∧ t.good := by
  have hcells : Tryd.prog.cellsOf 49 = 16 := by kernel_rfl
  obtain ⟨xs, n, _, hx, hl, hxl, hf⟩ := DataW.trod_struct Tryd.underlying49 h
  rw [hcells] at hl
  have q0 : Tryd.prog.cellsOf 30 = 2 := by kernel_rfl
  have q1 : Tryd.prog.cellsOf 41 = 3 := by kernel_rfl
  have q2 : Tryd.prog.cellsOf 47 = 11 := by kernel_rfl
  have g0 : DataW.trod enc Tryd.prog W base spare held n 30 ((cs.drop 0).take (Tryd.prog.cellsOf 30)) = xs[0]? := hf 0 _ rfl
  have g1 : DataW.trod enc Tryd.prog W base spare held n 41 ((cs.drop 2).take (Tryd.prog.cellsOf 41)) = xs[1]? := hf 1 _ rfl
  have g2 : DataW.trod enc Tryd.prog W base spare held n 47 ((cs.drop 5).take (Tryd.prog.cellsOf 47)) = xs[2]? := hf 2 _ rfl
  have hxl2 : xs.length = 3 := hxl
  clear hf hxl
  match xs, hxl2, cs, hl with
  | [y0, y1, y2], _, [v0, v1, v2, v3, v4, v5, v6, v7, v8, v9, v10, v11, v12, v13, v14, v15], _ =>
    rw [q0] at g0
    rw [q1] at g1
    rw [q2] at g2
    rw [hx] at hw
    simp only [DataW.weights, Tryd.underlying49] at hw
    have w2 := parts_all (t := 47) hw 2 y2.1 rfl rfl
    obtain ⟨e, nn, rfl, rfl, a1, a2, a3, a4⟩ := open_u32x2 (show DataW.trod enc Tryd.prog W base spare held n 30 [v0, v1] = some y0 from g0)
    obtain ⟨s, b, m, rfl, rfl, rfl, b1, b2, b3, b4, b5, b6⟩ := open_org (show DataW.trod enc Tryd.prog W base spare held n 41 [v2, v3, v4] = some y1 from g1)
    obtain ⟨r, hr, hg⟩ := open_rq _ (Nat.lt_succ_self _) (show DataW.trod enc Tryd.prog W base spare held n 47 [v5, v6, v7, v8, v9, v10, v11, v12, v13, v14, v15] = some y2 from g2) w2
    exact ⟨⟨e, nn, s, b, m, r⟩, ⟨_, rfl, hr⟩, ⟨a1, a2, a3, a4, b1, b2, b3, b4, b5, b6, hg⟩⟩

theorem open_txs {fuel : Nat} {v : Value} {x : DataW H × List MemPlace} (h : DataW.trod enc Tryd.prog W base spare held fuel 22 [v] = some x) (hw : (x.1.weights Tryd.prog 22).all (· ≤ reachBytes) = true) :
    ∃ l : List TxD, SeesTxs W v l ∧ l.length ≤ reachBytes ∧ ∀ t ∈ l, t.good := by
  obtain ⟨cs, hs, hl, hc⟩ := open_rows Tryd.underlying22 (z := 16) (by kernel_rfl) (of_decide_eq_true (by kernel_rfl)) (by omega) h hw
  have each : ∀ c ∈ cs, ∃ t : TxD, SeesTx W c t ∧ t.good := fun c hcc => by
    obtain ⟨n, y, h1, _, h3⟩ := hc c hcc
    exact open_tx h1 h3
  have pick : ∀ (ds : List (List Value)), (∀ c ∈ ds, ∃ t : TxD, SeesTx W c t ∧ t.good) → ∃ l : List TxD, ds.length = l.length ∧ (∀ i (h : i < ds.length) (k : i < l.length), SeesTx W ds[i] l[i]) ∧ ∀ t ∈ l, t.good := by
    intro ds
    induction ds with
    | nil => exact fun _ => ⟨[], rfl, fun i h => by simp at h, fun t ht => by simp at ht⟩
    | cons c ds ih =>
      intro hd
      obtain ⟨t, h1, h2⟩ := hd c (by simp)
      obtain ⟨l, e, h3, h4⟩ := ih (fun c hc => hd c (by simp [hc]))
      refine ⟨t :: l, by simp [e], fun i hi hk => ?_, fun u hu => ?_⟩
      · cases i with
        | zero => exact h1
        | succ i => exact h3 i (by simpa using hi) (by simpa using hk)
      · rcases List.mem_cons.1 hu with rfl | hu
        · exact h2
        · exact h4 u hu
  obtain ⟨l, e, h1, h2⟩ := pick cs each
  exact ⟨l, ⟨cs, hs, e, h1⟩, by omega, h2⟩
end
end Go.Proofs.YtljghfglabgckaaDoor

/- A case and a pair of histories that came in, opened; no Go function is walked here. -/
namespace Go.Proofs.YtljghfglabgckaaDoor
open Go.ChangeShapes Go.WideShapes Go.ChangeAt Go.RowKit
set_option maxRecDepth 8000

section
variable {H : Type} {enc : TypeId × Value → H} {W : World} {base : Nat} {spare : Nat → Bool} {held : Bool}

theorem trod_f64 {t : TypeId} {fuel : Nat} {v : Value} {x : DataW H × List MemPlace} (ht : Tryd.prog.underlying t = some (.float .f64)) (h : DataW.trod enc Tryd.prog W base spare held fuel t [v] = some x) : ∃ b, v = Value.float .f64 b ∧ b < 18446744073709551616 := by
  cases fuel with
  | zero => simp [DataW.trod] at h
  | succ n =>
    cases v <;> simp [DataW.trod, ht] at h
    rename_i k b
    cases k <;> simp [Lit.wf] at h
    exact ⟨b, rfl, by have := h.1; omega⟩

end
end Go.Proofs.YtljghfglabgckaaDoor
/- A round of the copy of a request's inner ones. No Go function is walked here. -/
namespace Go.Proofs.YtljghfglabgckaaDoor
open Go.RowKit
set_option maxRecDepth 8000

theorem row_shape {w : World} {base : Nat} {t : TypeId} {z : Nat} {v : Value} {n : Nat} {xs : List Value} (h : w.ownsRow base t z v n xs) : ∃ ao n c, v = .slice ao n c := by
  rcases h.2 with ⟨rfl, _⟩ | ⟨g, cap, cur, rfl, _⟩
  · exact ⟨_, _, _, rfl⟩
  · exact ⟨_, _, _, rfl⟩

/-- A round of the copy of a request's inner ones: what stands behind it. -/
theorem copy_round {w U wr w5 w6 : World} {B k n : Nat} {t : TypeId} {IN cs : Array Value} {ops : Fin n → Rq} {vo v' : Value} {es : List (List Value)} {ds : List Value} {o : Obj}
    (hB : w.heap.size + 3 ≤ B) (hBw : B ≤ wr.heap.size) (hk : k < n) (hes : es.length = k) (hC : CS w wr IN cs) (hK : Kept U wr (fun j => j = w.heap.size + 2 ∨ B ≤ j)) (hvo : ∀ q, vo.ownBlock = some q → B ≤ q ∧ q < wr.heap.size)
    (hel : ∀ j (hj : j < es.length) (hn : j < n), RqIn wr (fun q => B ≤ q ∧ q < wr.heap.size ∧ vo.ownBlock ≠ some q) es[j] (ops ⟨j, hn⟩))
    (b5 : Below wr.heap.size wr w5) (hr5 : RqIn w5 (fun q => wr.heap.size ≤ q ∧ q < w5.heap.size) ds (ops ⟨k, hk⟩))
    (hgrow : (w5.alloc o).grownBy w6 vo.ownBlock) (hat : v'.ownBlock = vo.ownBlock ∨ v'.ownBlock = some (w5.alloc o).heap.size) (hown' : w6.ownsRow B t 11 v' (k + 1) (es.flatten ++ ds)) :
    CS w (w6.setCell ⟨w.heap.size + 2, 10, none⟩ v') IN (cs.setIfInBounds 10 v') ∧ Kept U (w6.setCell ⟨w.heap.size + 2, 10, none⟩ v') (fun j => j = w.heap.size + 2 ∨ B ≤ j) ∧
      (w6.setCell ⟨w.heap.size + 2, 10, none⟩ v').ownsRow B t 11 v' (k + 1) (es ++ [ds]).flatten ∧
      ∀ j (hj : j < (es ++ [ds]).length) (hn : j < n), RqIn (w6.setCell ⟨w.heap.size + 2, 10, none⟩ v') (fun q => B ≤ q ∧ q < (w6.setCell ⟨w.heap.size + 2, 10, none⟩ v').heap.size ∧ v'.ownBlock ≠ some q) (es ++ [ds])[j] (ops ⟨j, hn⟩) := by
  have h5 := b5.size
  have h6 := hgrow.size
  simp at h6
  have hsz : (w6.setCell ⟨w.heap.size + 2, 10, none⟩ v').heap.size = w6.heap.size := by simp [World.setCell]
  have hat' : ∀ q, v'.ownBlock = some q → (vo.ownBlock = some q) ∨ q = w5.heap.size + 1 - 0 := fun q hq => by
    rcases hat with h | h
    · exact .inl (by rw [← h]; exact hq)
    · rw [hq] at h; simp at h; exact .inr (by omega)
  have K5 : Kept w5 w6 (fun q => vo.ownBlock = some q) := ((Kept.refl w5 (fun q => vo.ownBlock = some q)).alloc o).grown hgrow (fun q _ h => h)
  have K6 : Kept w6 (w6.setCell ⟨w.heap.size + 2, 10, none⟩ v') (fun q => q = w.heap.size + 2) := (Kept.refl w6 (fun q => q = w.heap.size + 2)).setCell _ _ (fun _ => rfl)
  have Kr : Kept wr w6 (fun q => wr.heap.size ≤ q ∨ vo.ownBlock = some q) := ((Below.kept b5).mono (fun q _ h => Or.inl h)).trans K5 (fun q _ h => .inr h)
  have Kw : Kept wr (w6.setCell ⟨w.heap.size + 2, 10, none⟩ v') (fun q => wr.heap.size ≤ q ∨ vo.ownBlock = some q ∨ q = w.heap.size + 2) := (Kr.mono (fun q _ h => h.elim .inl (fun h => .inr (.inl h)))).trans K6 (fun q _ h => .inr (.inr h))
  have K56 : Kept w5 (w6.setCell ⟨w.heap.size + 2, 10, none⟩ v') (fun q => vo.ownBlock = some q ∨ q = w.heap.size + 2) := (K5.mono (fun q _ h => Or.inl h)).trans K6 (fun q _ h => .inr h)
  refine ⟨(hC.kept Kr (fun q h => ?_)).set 10 v', hK.trans Kw (fun q _ h => ?_), ?_, fun j hj hn => ?_⟩
  · rcases h with h | h
    · omega
    · have := hvo q h; omega
  · rcases h with h | h | h
    · exact .inr (by omega)
    · exact .inr (hvo q h).1
    · exact .inl h
  · rw [List.flatten_append]
    simp only [List.flatten_cons, List.flatten_nil, List.append_nil]
    exact ownsRow_kept hown' K6 (fun q hq e => by have := (hown'.lt q hq).1; omega)
  · by_cases hjk : j < es.length
    · rw [List.getElem_append_left hjk]
      refine RqIn.kept Kw (fun q hq => ⟨fun h => ?_, hq.1, by omega, fun e => ?_⟩) (hel j hjk hn)
      · rcases h with h | h | h
        · omega
        · exact hq.2.2 h
        · omega
      · rcases hat' q e with h | h
        · exact hq.2.2 h
        · omega
    · have hj' : j = k := by simp at hj; omega
      subst hj'
      have hget : (es ++ [ds])[j] = ds := by
        rw [List.getElem_append_right (by omega)]
        simp [hes]
      rw [hget]
      refine RqIn.kept K56 (fun q hq => ⟨fun h => ?_, by omega, by omega, fun e => ?_⟩) hr5
      · rcases h with h | h
        · have := hvo q h; omega
        · omega
      · rcases hat' q e with h | h
        · have := hvo q h; omega
        · omega

end Go.Proofs.YtljghfglabgckaaDoor
