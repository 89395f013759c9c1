/- A list of lists that are grown one by one; no Go function is walked here. -/
import Derived.Test.YtghngopclhhoeaaDoorTurn2J
namespace Go.Proofs.YtghngopclhhoeaaDoor
open Go.RowKit
set_option maxRecDepth 8000

/-- A list of lists: its row is of type T. -/
def SeesPcs (w : World) (T : TypeId) (v : Value) (ps : List Pc) : Prop :=
  ∃ ao cap, v = .slice ao ps.length cap ∧ ps.length ≤ cap ∧ cap ≤ maxLen ∧ (ps = [] ∨ ∃ b off, ao = some ⟨b, off, none⟩ ∧ (∃ cs fr, w.heap[b]? = some (.cells cs T fr)) ∧ ∀ i (h : i < ps.length), w.cell? ⟨b, off + i, none⟩ = some ps[i].val)

/-- No two of the lists have room in common. -/
def ApartPcs (ps : List Pc) : Prop := ∀ i j (hi : i < ps.length) (hj : j < ps.length), i ≠ j → ∀ k x, ps[i].foot k x → ¬ ps[j].foot k x

/-- The room of all of them; their spare room. -/
def feet (ps : List Pc) (k x : Nat) : Prop := ∃ p ∈ ps, p.foot k x
def spares (ps : List Pc) (k x : Nat) : Prop := ∃ p ∈ ps, p.spare k x

theorem SeesPcs.turned {w w' : World} {T E : TypeId} {v : Value} {ps qs : List Pc} {S : Nat → Nat → Prop} (h : SeesPcs w T v ps) (ht : Turned w w' S) (hS : ∀ k x, S k x → feet qs k x) (hl : ∀ p ∈ qs, Lies w E p) (hTE : T ≠ E) : SeesPcs w' T v ps := by
  obtain ⟨ao, cap, rfl, h1, h2, h3⟩ := h
  refine ⟨ao, cap, rfl, h1, h2, ?_⟩
  rcases h3 with h3 | ⟨b, off, rfl, ⟨cs, fr, hr⟩, h4⟩
  · exact .inl h3
  · obtain ⟨cs', k1, _, _⟩ := ht.row b cs T fr hr
    refine .inr ⟨b, off, rfl, ⟨cs', fr, k1⟩, fun i hi => ht.cell (h4 i hi) (fun hs => ?_)⟩
    obtain ⟨p, hp, hf⟩ := hS _ _ hs
    obtain ⟨_, cs2, hr2⟩ := (hl p hp).foot_lt hf
    rw [hr] at hr2
    simp at hr2
    exact hTE hr2.2.1

/-- Behind i rounds: the lists qs, grown by so many, lie in the list mv. -/
structure Built (w wr : World) (E T : TypeId) (ps : List Pc) (m M : Nat → Value) (more : Nat) (i : Nat) (mv : Value) (qs : List Pc) : Prop where
  le : i ≤ ps.length
  len : qs.length = i
  own : wr.ownsRow w.heap.size T 1 mv i (qs.map Pc.val)
  turned : Turned w wr (spares ps)
  has : ∀ j (hq : j < qs.length) (hp : j < ps.length), qs[j].Has wr (List.replicate ps[j].n (m j) ++ List.replicate more (M j))
  lies : ∀ j (hq : j < qs.length), Lies wr E qs[j]
  place : ∀ j (hq : j < qs.length) (hp : j < ps.length) k x, qs[j].foot k x → ps[j].foot k x ∨ w.heap.size ≤ k

theorem Built.start (w : World) (E T : TypeId) (ps : List Pc) (m M : Nat → Value) (more : Nat) : Built w w E T ps m M more 0 (.slice none 0 0) [] :=
  ⟨Nat.zero_le _, rfl, World.ownsRow_nil _ _ _ _, Turned.refl _ _, fun j hq => by simp at hq, fun j hq => by simp at hq, fun j hq => by simp at hq⟩

/-- What a grown list is in the end. -/
theorem Grown.pc {wi wr : World} {E : TypeId} {p : Pc} {v : Value} {xs : List Value} (h : Grown wi wr E p v xs) (hl : Lies wi E p) : ∃ q : Pc, v = q.val ∧ q.Has wr xs ∧ Lies wr E q ∧ ∀ k x, q.foot k x → p.foot k x ∨ wi.heap.size ≤ k := by
  obtain ⟨hT, hn, h | h⟩ := h
  · obtain ⟨rfl, hle, hhas⟩ := h
    have hl' := hl.turned hT
    exact ⟨⟨p.ao, xs.length, p.cap⟩, rfl, hhas, ⟨hle, hl'.most, hl'.nil, hl'.at'⟩, fun k x hf => .inl hf⟩
  · obtain ⟨q, h1, h2, h3, h4, h5⟩ := own_has h
    exact ⟨q, h1, h3, h4, fun k x hf => .inr (h5 k x hf)⟩

theorem ownsRow_same {w w' : World} {base : Nat} {T : TypeId} {v : Value} {n : Nat} {xs : List Value} (h : w.ownsRow base T 1 v n xs) (hk : ∀ g o, w.heap[g]? = some o → base ≤ g → v.ownBlock = some g → w'.heap[g]? = w.heap[g]?) : w'.ownsRow base T 1 v n xs := by
  refine ⟨h.1, ?_⟩
  rcases h.2 with h | ⟨g, cap, cur, e, h1, h2, h3⟩
  · exact .inl h
  · exact .inr ⟨g, cap, cur, e, h1, by rw [hk g _ h2 h1 (by rw [e]; rfl)]; exact h2, h3⟩

section
variable {w wr w1 w2 w3 : World} {E T : TypeId} {ps qs : List Pc} {m M : Nat → Value} {more i : Nat} {mv v mv' : Value}

/-- Lists that lay apart from what the i-th round turns. -/
theorem Built.mid (h : Built w wr E T ps m M more i mv qs) (hl : ∀ p ∈ ps, Lies w E p) (hap : ApartPcs ps) (hi : i < ps.length) (ht : Turned wr w1 ps[i].spare) :
    Built w w1 E T ps m M more i mv qs := by
  have hsp : ∀ k x, ps[i].spare k x → k < w.heap.size := fun k x hs => ((hl ps[i] (List.getElem_mem hi)).foot_lt (Pc.spare_foot hs)).1
  refine ⟨h.le, h.len, ownsRow_same h.own (fun g o hg hb _ => ?_), h.turned.trans ht (fun k x _ hs => ⟨ps[i], List.getElem_mem hi, hs⟩), fun j hq hp => ?_, fun j hq => (h.lies j hq).turned ht, h.place⟩
  · exact ht.same g (lt_of_block hg) (fun x hs => by have := hsp g x hs; omega)
  · refine (h.has j hq hp).turned ht (fun k x hf => .inr fun hs => ?_) (h.lies j hq).le
    rcases h.place j hq hp k x hf with hf' | hk
    · exact hap j i hp hi (by have := h.len; omega) k x hf' (Pc.spare_foot hs)
    · have := hsp k x hs; omega

/-- A list that lies apart from a row of another type. -/
theorem has_far {q : Pc} {xs : List Value} {g : Nat} {cs : Array Value} {fr : Nat × Nat} (h : q.Has w1 xs) (hl : Lies w1 E q) (hk : Kept w1 w2 (fun k => k = g)) (hr : g < w1.heap.size → w1.heap[g]? = some (.cells cs T fr)) (hTE : T ≠ E) : q.Has w2 xs ∧ Lies w2 E q := by
  have hne : ∀ k o, w1.heap[k]? = some o → (∃ cs, o = .cells cs E (0, 0)) → k ≠ g := by
    intro k o ho hE e
    subst e
    have := hr (lt_of_block ho)
    obtain ⟨cs', rfl⟩ := hE
    rw [this] at ho
    simp at ho
    exact hTE ho.2.1
  refine ⟨⟨h.1, ?_⟩, hl.le, hl.most, hl.nil, fun h0 => ?_⟩
  · rcases h.2 with h0 | ⟨k, off, h1, h2⟩
    · exact .inl h0
    · refine .inr ⟨k, off, h1, fun j hj => hk.cell (h2 j hj) (fun e => ?_)⟩
      have hlen := h.1
      have := hl.le
      obtain ⟨k', off', cs', e1, e2, _⟩ := hl.at' (by omega)
      rw [h1] at e1
      simp at e1
      obtain ⟨rfl, rfl⟩ := e1
      exact hne k _ e2 ⟨_, rfl⟩ e
  · obtain ⟨k, off, cs', e1, e2, e3⟩ := hl.at' h0
    exact ⟨k, off, cs', e1, hk.heap e2 (hne k _ e2 ⟨_, rfl⟩), e3⟩

theorem Built.kept (h : Built w wr E T ps m M more i mv qs) (hk : Kept wr w1 (fun _ => False)) : Built w w1 E T ps m M more i mv qs :=
  ⟨h.le, h.len, ownsRow_same h.own (fun g _ hg _ _ => hk.block g (lt_of_block hg) (fun h => h)), h.turned.new hk, fun j hq hp => (h.has j hq hp).kept hk, fun j hq => (h.lies j hq).turned (Turned.of_kept hk (fun _ _ => False)), h.place⟩

theorem Built.step (h : Built w w1 E T ps m M more i mv qs) (hTE : T ≠ E) (hi : i < ps.length) {q : Pc} (hq : q.Has w1 (List.replicate ps[i].n (m i) ++ List.replicate more (M i))) (hlq : Lies w1 E q) (hpl : ∀ k x, q.foot k x → ps[i].foot k x ∨ w.heap.size ≤ k)
    (hown : w2.ownsRow w.heap.size T 1 mv' (i + 1) (qs.map Pc.val ++ [q.val])) (hg : w1.grownBy w2 mv.ownBlock) : Built w w2 E T ps m M more (i + 1) mv' (qs ++ [q]) := by
  have hfar : ∀ (r : Pc) (xs : List Value), r.Has w1 xs → Lies w1 E r → r.Has w2 xs ∧ Lies w2 E r := by
    intro r xs h1 h2
    cases hmv : mv.ownBlock with
    | none =>
      have hk : Kept w1 w2 (fun _ => False) := kept_grown hg (fun k e => by rw [hmv] at e; simp at e)
      exact ⟨h1.kept hk, h2.turned (Turned.of_kept hk (fun _ _ => False))⟩
    | some g =>
      rcases h.own.2 with ⟨e, _⟩ | ⟨g', cap, cur, e, hb, hr, _⟩
      · rw [e] at hmv; simp [Value.ownBlock] at hmv
      · rw [e] at hmv
        simp [Value.ownBlock] at hmv
        subst hmv
        refine has_far (g := g') h1 h2 (kept_grown hg (fun k e' => ?_)) (fun _ => hr) hTE
        rw [e] at e'
        simp [Value.ownBlock] at e'
        exact e'.symm
  refine ⟨hi, by simp [h.len], by rw [List.map_append]; exact hown, ?_, fun j hj hp => ?_, fun j hj => ?_, fun j hj hp k x hf => ?_⟩
  · refine h.turned.own (B := w.heap.size) (Nat.le_refl _) (kept_grown hg (fun k e => ?_))
    rcases h.own.2 with ⟨e', _⟩ | ⟨g', cap, cur, e', hb, _⟩
    · rw [e'] at e; simp [Value.ownBlock] at e
    · rw [e'] at e; simp [Value.ownBlock] at e; omega
  · by_cases hj' : j < qs.length
    · rw [List.getElem_append_left hj']
      exact (hfar _ _ (h.has j hj' hp) (h.lies j hj')).1
    · have e : j = i := by rw [List.length_append] at hj; have := h.len; simp at hj; omega
      subst e
      rw [List.getElem_append_right (by omega)]
      simp only [h.len, Nat.sub_self, List.getElem_cons_zero]
      exact (hfar _ _ hq hlq).1
  · by_cases hj' : j < qs.length
    · rw [List.getElem_append_left hj']
      by_cases hp : j < ps.length
      · exact (hfar _ _ (h.has j hj' hp) (h.lies j hj')).2
      · have := h.len; have := h.le; omega
    · have e : j = i := by rw [List.length_append] at hj; have := h.len; simp at hj; omega
      subst e
      rw [List.getElem_append_right (by omega)]
      simp only [h.len, Nat.sub_self, List.getElem_cons_zero]
      exact (hfar _ _ hq hlq).2
  · by_cases hj' : j < qs.length
    · rw [List.getElem_append_left hj'] at hf
      exact h.place j hj' hp k x hf
    · have e : j = i := by rw [List.length_append] at hj; have := h.len; simp at hj; omega
      subst e
      rw [List.getElem_append_right (by omega)] at hf
      simp only [h.len, Nat.sub_self, List.getElem_cons_zero] at hf
      exact hpl k x hf

end
end Go.Proofs.YtghngopclhhoeaaDoor
