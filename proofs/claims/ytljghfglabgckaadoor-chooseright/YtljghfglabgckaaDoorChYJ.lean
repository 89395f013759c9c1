/- A pair of histories that came in, opened, and what a follower's history becomes, as data; no Go function is walked here. -/
import Derived.Test.YtljghfglabgckaaDoorCopyTJ
import Derived.Test.YtljghfglabgckaaDoorChUJ
import Derived.Test.YtljghfglabgckaaDoorChVJ
import Derived.Test.YtljghfglabgckaaDoorCopyFJ
import Derived.Laws.OwnMore
namespace Go.Proofs.YtljghfglabgckaaDoor
open Go.ChangeShapes Go.WideShapes Go.ChangeAt Go.RowKit
set_option maxRecDepth 8000

abbrev pairA (va vb : Value) (ca im : Int) (x : Nat) : Array Value := #[va, vb, .int .i64 ca, .int .i64 im, .float .f64 x]

section
variable {H : Type} {enc : TypeId × Value → H} {W : World} {base : Nat} {spare : Nat → Bool} {held : Bool}

theorem open_pair {fuel : Nat} {cs : List Value} {x : DataW H × List MemPlace} (h : DataW.trod enc Tryd.prog W base spare held fuel 25 cs = some x) (hw : (x.1.weights Tryd.prog 25).all (· ≤ reachBytes) = true) :
    ∃ (va : Value) (la : List TxD) (vb : Value) (lb : List TxD) (ca im : Int) (fx : Nat), cs = (pairA va vb ca im fx).toList ∧ SeesTxs W va la ∧ (∀ t ∈ la, t.good) ∧ SeesTxs W vb lb ∧ (∀ t ∈ lb, t.good) ∧ fx < 18446744073709551616 := by
  have hcells : Tryd.prog.cellsOf 25 = 5 := by kernel_rfl
  obtain ⟨xs, n, _, hx, hl, hxl, hf⟩ := DataW.trod_struct Tryd.underlying25 h
  rw [hcells] at hl
  have q2 : Tryd.prog.cellsOf 22 = 1 := by kernel_rfl
  have q3 : Tryd.prog.cellsOf 3 = 1 := by kernel_rfl
  have q5 : Tryd.prog.cellsOf 23 = 1 := by kernel_rfl
  have g0 : DataW.trod enc Tryd.prog W base spare held n 22 ((cs.drop 0).take (Tryd.prog.cellsOf 22)) = xs[0]? := hf 0 _ rfl
  have g1 : DataW.trod enc Tryd.prog W base spare held n 22 ((cs.drop 1).take (Tryd.prog.cellsOf 22)) = xs[1]? := hf 1 _ rfl
  have g2 : DataW.trod enc Tryd.prog W base spare held n 3 ((cs.drop 2).take (Tryd.prog.cellsOf 3)) = xs[2]? := hf 2 _ rfl
  have g3 : DataW.trod enc Tryd.prog W base spare held n 3 ((cs.drop 3).take (Tryd.prog.cellsOf 3)) = xs[3]? := hf 3 _ rfl
  have g4 : DataW.trod enc Tryd.prog W base spare held n 23 ((cs.drop 4).take (Tryd.prog.cellsOf 23)) = xs[4]? := hf 4 _ rfl
  have hxl2 : xs.length = 5 := hxl
  clear hf hxl
  match xs, hxl2, cs, hl with
  | [y0, y1, y2, y3, y4], _, [v0, v1, v2, v3, v4], _ =>
    rw [q2] at g0 g1
    rw [q3] at g2 g3
    rw [q5] at g4
    rw [hx] at hw
    simp only [DataW.weights, Tryd.underlying25] at hw
    have w0 := parts_all (t := 22) hw 0 y0.1 rfl rfl
    have w1 := parts_all (t := 22) hw 1 y1.1 rfl rfl
    obtain ⟨la, hla, _, hga⟩ := open_txs (show DataW.trod enc Tryd.prog W base spare held n 22 [v0] = some y0 from g0) w0
    obtain ⟨lb, hlb, _, hgb⟩ := open_txs (show DataW.trod enc Tryd.prog W base spare held n 22 [v1] = some y1 from g1) w1
    obtain ⟨ca, e3, _, b3⟩ := DataW.trod_int Tryd.underlying3 (show DataW.trod enc Tryd.prog W base spare held n 3 [v2] = some y2 from g2)
    obtain ⟨im, e4, _, b4⟩ := DataW.trod_int Tryd.underlying3 (show DataW.trod enc Tryd.prog W base spare held n 3 [v3] = some y3 from g3)
    obtain ⟨fx, e5, b5⟩ := trod_f64 Tryd.underlying23 (show DataW.trod enc Tryd.prog W base spare held n 23 [v4] = some y4 from g4)
    simp at e3 e4
    subst e3 e4 e5
    exact ⟨v0, la, v1, lb, ca, im, fx, rfl, hla, hga, hlb, hgb, b5⟩
end

/-- Within a list that rises: who stands ahead is smaller, and no two are the same. -/
theorem rises_strict : ∀ (l : List TxD) (e n : Int) (i k : Nat) (hk : k < l.length) (hi : i < k), rises e n l = true → (l[i]'(by omega)).ep < l[k].ep ∨ ((l[i]'(by omega)).ep = l[k].ep ∧ (l[i]'(by omega)).n < l[k].n)
  | [], _, _, _, k, hk, _, _ => by simp at hk
  | t :: l, e, n, i, k, hk, hi, h => by
    cases k with
    | zero => omega
    | succ k =>
      cases i with
      | zero =>
        have h' := h
        simp only [rises, Bool.and_eq_true] at h'
        obtain ⟨_, _, h3⟩ := rises_drop l t.ep t.n k (by simpa using hk) h'.2
        simpa using h3
      | succ i =>
        simp only [rises, Bool.and_eq_true] at h
        simpa using rises_strict l t.ep t.n i k (by simpa using hk) (by omega) h.2

theorem upL_take (e n : Int) (l : List TxD) (m : Nat) (h1 : ∀ i (h : i < l.length), i < m → zcmp l[i].ep l[i].n e n ≤ 0) (h2 : ∀ i (h : i < l.length), m ≤ i → 0 < zcmp l[i].ep l[i].n e n) : upL e n l = l.take m := by
  unfold upL
  conv => lhs; rw [← List.take_append_drop m l]
  rw [List.filter_append, List.filter_eq_self.2 fun t ht => ?_, List.filter_eq_nil_iff.2 fun t ht => ?_, List.append_nil]
  · obtain ⟨j, hj, rfl⟩ := List.getElem_of_mem ht
    have := h2 (m + j) (by simp at hj; omega) (by omega)
    simp only [List.getElem_drop, decide_eq_true_eq]
    omega
  · obtain ⟨j, hj, rfl⟩ := List.getElem_of_mem ht
    have := h1 j (by simp at hj; omega) (by simp at hj; omega)
    simpa [List.getElem_take] using this

theorem upL_none {e n : Int} {l : List TxD} (h : rises e n l = true) : upL e n l = [] := by
  have := upL_take e n l 0 (fun i _ h => by omega) (fun i hi _ => by
    have h3 := (rises_drop l e n i hi h).2.2
    unfold zcmp
    rw [if_neg (by omega), if_neg (by omega)]; omega)
  simpa using this

theorem upL_at {e n : Int} {l : List TxD} (h : rises e n l = true) (k : Nat) (hk : k < l.length) : upL l[k].ep l[k].n l = l.take (k + 1) :=
  upL_take _ _ l (k + 1) (fun i hi hik => rises_lt l e n i k hk (by omega) h) (fun i hi hik => by
    have := rises_strict l e n k i hi (by omega) h
    unfold zcmp
    rw [if_neg (by omega), if_neg (by omega)]; omega)

/-- What a follower's history is, once it has kept what stands up to From and taken what the leader sends: the leader's; and the way says what was done. -/
theorem right_facts {la lb : List TxD} (hra : rises 0 0 la = true) (hrb : rises 0 0 lb = true) (hA : ∀ i k, AgP la lb i k) (u : Nat) (hu : u ≤ la.length)
    (hs : (lstE 0 la u = 0 ∧ lstN 0 la u = 0) ∨ ∃ k, ∃ hk : k < lb.length, lb[k].ep = lstE 0 la u ∧ lb[k].n = lstN 0 la u) :
    upL (lstE 0 la u) (lstN 0 la u) la = la.take u ∧ upL (lstE 0 la u) (lstN 0 la u) lb = la.take u ∧
      ((lstE 0 la u = lstE 0 lb lb.length ∧ lstN 0 la u = lstN 0 lb lb.length) ↔ ¬ (la.take u).length < lb.length) := by
  cases u with
  | zero =>
    rw [lstE_zero, lstN_zero, List.take_zero]
    refine ⟨upL_none hra, upL_none hrb, ?_⟩
    cases lb with
    | nil => simp [lstE, lstN]
    | cons t l =>
      have a := lstE_next 0 (t :: l) l.length (by simp)
      have b := lstN_next 0 (t :: l) l.length (by simp)
      have h3 := (rises_drop (t :: l) 0 0 l.length (by simp) hrb).2.2
      rw [← a, ← b] at h3
      simp only [List.length_nil, List.length_cons]
      constructor
      · intro h; omega
      · intro h; omega
  | succ j =>
    have hj : j < la.length := by omega
    rw [lstE_next 0 la j hj, lstN_next 0 la j hj] at hs ⊢
    obtain ⟨k, hk, h1, h2⟩ : ∃ k, ∃ hk : k < lb.length, lb[k].ep = la[j].ep ∧ lb[k].n = la[j].n := by
      rcases hs with hs | hs
      · have h3 := (rises_drop la 0 0 j hj hra).2.2
        omega
      · exact hs
    have ht := hA j k hj hk ⟨h1.symm, h2.symm⟩
    refine ⟨upL_at hra j hj, ?_, ?_⟩
    · rw [← h1, ← h2, upL_at hrb k hk, ht]
    · rw [ht, ← h1, ← h2]
      obtain ⟨m, hm⟩ : ∃ m, lb.length = m + 1 := ⟨lb.length - 1, by omega⟩
      have a := lstE_next 0 lb m (by omega)
      have b := lstN_next 0 lb m (by omega)
      rw [hm, a, b]
      have hlen : (lb.take (k + 1)).length = k + 1 := by simp; omega
      rw [hlen]
      constructor
      · intro h hlt
        have := rises_strict lb 0 0 k m (by omega) (by omega) hrb
        omega
      · intro h
        obtain rfl : k = m := by omega
        exact ⟨rfl, rfl⟩
end Go.Proofs.YtljghfglabgckaaDoor

/- append(copy, rest...): a copy of transactions with others behind it, as they lie; no Go function is walked here. -/
namespace Go.Proofs.YtljghfglabgckaaDoor
open Go.RowKit
set_option maxRecDepth 8000

/-- A place among elements of z cells, laid one behind the other. -/
theorem flatAt (z : Nat) : ∀ (cs : List (List Value)), (∀ c ∈ cs, c.length = z) → ∀ (k : Nat) (v : Value), cs.flatten[k]? = some v → ∃ i j, ∃ (h : i < cs.length), j < z ∧ k = i * z + j ∧ cs[i].getD j (.bool false) = v
  | [], _, k, v, h => by simp at h
  | c :: cs, hz, k, v, h => by
    have hc := hz c (by simp)
    rw [List.flatten_cons] at h
    by_cases hk : k < c.length
    · rw [List.getElem?_append_left hk] at h
      exact ⟨0, k, by simp, by omega, by simp, by simp [List.getD_eq_getElem?_getD, h]⟩
    · rw [List.getElem?_append_right (by omega)] at h
      obtain ⟨i, j, hi, hj, e, hv⟩ := flatAt z cs (fun c hc => hz c (by simp [hc])) _ v h
      refine ⟨i + 1, j, by simpa using hi, hj, ?_, by simpa using hv⟩
      rw [Nat.add_mul, Nat.one_mul]
      omega

theorem flatLen (z : Nat) : ∀ (cs : List (List Value)), (∀ c ∈ cs, c.length = z) → cs.flatten.length = cs.length * z
  | [], _ => by simp
  | c :: cs, hz => by
    rw [List.flatten_cons, List.length_append, hz c (by simp), flatLen z cs (fun c hc => hz c (by simp [hc])), List.length_cons, Nat.add_mul, Nat.one_mul]
    omega

theorem tx_one {w : World} {cs : List Value} {t : TxD} (h : SeesTx w cs t) : ∀ u ∈ cs, u.oneCell' = true := by
  obtain ⟨rc, rfl, hr⟩ := h
  obtain ⟨q0, q1, d0, d1, d2, a0, a1, a2, q4, q5, q6, q7, q8, e0, e1, e2, o0, o1, o2, rfl⟩ := rq_forms hr
  intro u hu
  simp only [txHead, List.cons_append, List.nil_append, List.mem_cons, List.not_mem_nil, or_false] at hu
  rcases hu with rfl | rfl | rfl | rfl | rfl | rfl | rfl | rfl | rfl | rfl | rfl | rfl | rfl | rfl | rfl | rfl <;> rfl

theorem HereE.app {W : World} {es ds : List (List Value)} {l m : List TxD} (h : HereE W es l) (g : HereE W ds m) : HereE W (es ++ ds) (l ++ m) := by
  refine ⟨by simp [h.1, g.1], fun j hj hl => ?_⟩
  by_cases hjk : j < es.length
  · rw [List.getElem_append_left hjk, List.getElem_append_left (by rw [← h.1]; exact hjk)]
    exact h.2 j hjk (by rw [← h.1]; exact hjk)
  · have e := h.1
    simp at hj hl
    rw [List.getElem_append_right (by omega), List.getElem_append_right (by omega)]
    have := g.2 (j - es.length) (by omega) (by omega)
    simpa [e] using this

theorem rest_app {w0 w : World} {B : Nat} {v : Value} {es : List (List Value)} {l1 l2 : List TxD} {ao : Option Addr} {m c : Nat} (hB : w0.heap.size ≤ B) (hBw : B ≤ w.heap.size) (hf : FullE w B v es l1) (ho : w.ownsRow B 49 16 v l1.length es.flatten)
    (hs : SeesTxs w0 (.slice ao m c) l2) (hb : Below w0.heap.size w0 w) (hn : l1.length + l2.length ≤ 1000000) :
    ∃ v' w', (Builtin.append_ #[22, 22] 22 #[v, .slice ao m c]).run Tryd.prog w = .ok v' w' ∧ SeesTxs w' v' (l1 ++ l2) ∧ Below B w w' := by
  obtain ⟨i0, hi, hz0, hz1, hz2⟩ := info_parts Tryd.infoTxF
  obtain ⟨cs, hr, hl, hsx⟩ := hs
  obtain ⟨ao', cap', e, g1, g2, g0, g3⟩ := hr.below hb (Nat.le_refl _)
  simp at e
  obtain ⟨rfl, em, rfl⟩ := e
  have hzl : ∀ d ∈ cs, d.length = 16 := fun d hd => by
    obtain ⟨j, hj, rfl⟩ := List.getElem_of_mem hd
    exact (hsx j hj (by rw [← hl]; exact hj)).len
  cases ao with
  | none =>
    have h0 := g0 rfl
    obtain rfl : c = 0 := h0
    obtain rfl : m = 0 := by omega
    have : cs = [] := List.eq_nil_of_length_eq_zero (by omega)
    subst this
    have : l2 = [] := List.eq_nil_of_length_eq_zero (by simp at hl; omega)
    subst this
    refine ⟨v, w, run_append_owned_none w B 22 22 49 i0 16 Tryd.underlying22 hi v _ _ ho, ?_, Below.refl _ _⟩
    rw [List.append_nil]
    exact full_sees hf ho
  | some ad =>
    have hcell : ∀ j u, cs.flatten[j]? = some u → w.cell? (ad.add j) = some u := fun k u hk => by
      obtain ⟨i, j, hi', hj, rfl, rfl⟩ := flatAt 16 cs hzl k u hk
      rcases g3 with g3 | ⟨b, off, e, g3⟩
      · subst g3; simp at hi'
      · simp at e
        subst e
        have := g3 i hi' j hj
        rw [Nat.add_assoc] at this
        rw [Addr.add_lit]
        exact this
    have hone : ∀ u ∈ cs.flatten, u.oneCell' = true := fun u hu => by
      obtain ⟨d, hd, hu'⟩ := List.mem_flatten.1 hu
      obtain ⟨j, hj, rfl⟩ := List.getElem_of_mem hd
      exact tx_one (hsx j hj (by rw [← hl]; exact hj)) u hu'
    obtain ⟨v', w', hrun, hown, hgrow, _, hat⟩ := run_append_own_at (P := Tryd.prog) w B 22 22 49 i0 _ 16 168 Tryd.underlying22 hi hz0 hz1 hz2 rfl (by decide) v l1.length es.flatten ho ad m c cs.flatten (by rw [flatLen 16 cs hzl, em]) hcell hone (by unfold maxLen; omega) (by omega) hBw
    have hbel : Below B w w' := (Below.refl B w).grown hgrow hBw (fun q hq => (ho.lt q hq).1)
    have hk : Kept w w' (fun q => v.ownBlock = some q) := (Kept.refl w _).grown hgrow (fun q _ h => h)
    refine ⟨v', w', hrun, ?_, hbel⟩
    have hb' : Below w0.heap.size w0 w' := hb.trans (hbel.mono hB)
    have h1 : HereE w' es l1 := ⟨hf.1, fun j hj hl => by
      obtain ⟨rc, e, hr⟩ := hf.2 j hj hl
      exact ⟨rc, e, (RqIn.kept (F' := fun _ => True) hk (fun q hq => ⟨hq.2.2, trivial⟩) hr).sees⟩⟩
    have h2 : HereE w' cs l2 := ⟨hl, fun j hj hl => (hsx j hj hl).below hb' (Nat.le_refl _)⟩
    refine here_sees (B := B) (h1.app h2) (Below.refl _ _) ?_
    rw [List.length_append, ← hl, ← em, List.flatten_append]
    exact hown

/-- At the operation: append, where its run is known. -/
theorem app_run {P : Program} {w : World} {ops : Array Oper} {rest : List Oper} {o : Oper} {a : Act} {Q : Exit → Act → World → Prop} (hgd : o.guard = none) (s x : Operand) (t : TypeId)
    (ho : o.op = .call { callee := .builtin .append, args := #[s, x], argTypes := #[t, t] }) (v u : Value) (hs : a.eval s = v) (hx : a.eval x = u) {v' : Value} {w' : World}
    (hr : (Builtin.append_ #[t, t] o.type #[v, u]).run P w = .ok v' w') (h : wpList P ops Q rest (a.put o.dst v') w') : wpList P ops Q (o :: rest) a w := by
  refine wpList_plain hgd fun K hK => ?_
  unfold Oper.wp execOp
  simp only [ho, resolve, invoke, builtin, Sem.run_bind, Sem.run_pure, Result.andThen_ok, List.map_toArray, List.map_cons, List.map_nil, hs, hx, hr]
  exact hK _ _ h
end Go.Proofs.YtljghfglabgckaaDoor
